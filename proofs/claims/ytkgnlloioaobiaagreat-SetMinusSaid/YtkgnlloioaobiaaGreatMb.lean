/-
  Part 2 of the texts that the laws stand on, merged: what each part says stands at its own head.
-/
import Derived.Orders
import Derived.Laws.AppendOwn
import Derived.Below
import Derived.Test.YtkgnlloioaobiaaGreatProg
import Derived.Deep.AppendLies
import Derived.Lib.SliceRun
import Derived.Deep.RegionHeld3
import Derived.Deep.Cut
import Derived.Maps.AppendAt
import Derived.Laws.OwnMore
import Derived.Deep.QuietTactic
import Derived.BigQuiet
import Derived.Sort.Grow
import Derived.Deep.LoopGhost
import Derived.Test.YtkgnlloioaobiaaGreatMa

/-
  A region that draws its order, walked by facts: each operation is shown once, out of the facts of the operations that it looks at; what is found of an operation's value stays, unless an operation writes into the memory that it speaks of (then that operation must say so, by 'kill').
-/
namespace Go.Proofs.YtkgnlloioaobiaaGreat
open Go.RowKit
set_option linter.unusedVariables false

section
variable {P : Program} {ops : Array Oper} {Q : Exit → Act → World → Prop}

/-- Operation i comes after operation j in every order. -/
def tied (ops : Array Oper) (i j : Nat) : Bool := match ops[i]? with | some o => o.after.any (fun e => e.on == j && Region.binds .any e) | none => false

/-- Every edge that binds leads to an earlier operation of the text. -/
def early (ops : Array Oper) : Bool := (List.range ops.size).all fun i => match ops[i]? with | some o => o.after.all (fun e => !Region.binds .any e || decide (e.on < i)) | none => true

theorem ready_of {listed : Array Bool} {i : Nat} (h : i ∈ Region.ready .any ops listed) :
    i < ops.size ∧ listed.getD i true = false ∧ ∀ j, tied ops i j = true → listed.getD j false = true := by
  unfold Region.ready at h
  simp only [List.mem_filter, List.mem_range, Bool.and_eq_true, Bool.not_eq_true'] at h
  refine ⟨h.1, h.2.1, fun j hj => ?_⟩
  have h2 := h.2.2
  unfold tied at hj
  cases ho : ops[i]? with
  | none => rw [ho] at hj; cases hj
  | some o =>
    rw [ho] at hj h2
    simp only [Option.map_some, Option.getD_some] at h2
    simp only at hj
    rw [Array.any_eq_true] at hj
    rw [Array.all_eq_true] at h2
    obtain ⟨k, hk, hb⟩ := hj
    have := h2 k hk
    simp only [Bool.and_eq_true, beq_iff_eq] at hb
    rw [hb.2, hb.1] at this
    simpa using this

theorem ready_all (he : early ops = true) {listed : Array Bool} (hs : listed.size = ops.size) (hr : Region.ready .any ops listed = []) : ∀ i, i < ops.size → listed.getD i false = true := by
  intro i
  induction i using Nat.strongRecOn with
  | _ i ih =>
    intro hi
    have hnot : i ∉ Region.ready .any ops listed := by rw [hr]; simp
    unfold Region.ready at hnot
    simp only [List.mem_filter, List.mem_range, Bool.and_eq_true, Bool.not_eq_true'] at hnot
    have hl : i < listed.size := by omega
    cases hb : listed.getD i false with
    | true => rfl
    | false =>
      exfalso
      apply hnot
      have hb2 : listed.getD i true = false := by
        simp only [Array.getD_eq_getD_getElem?, Array.getElem?_eq_getElem hl, Option.getD_some] at hb ⊢; exact hb
      refine ⟨hi, hb2, ?_⟩
      rw [Array.getElem?_eq_getElem hi]
      simp only [Option.map_some, Option.getD_some]
      rw [Array.all_eq_true]
      intro k hk
      have hea : (!Region.binds .any (ops[i]).after[k] || decide ((ops[i]).after[k].on < i)) = true := by
        unfold early at he
        rw [List.all_eq_true] at he
        have h1 := he i (List.mem_range.2 hi)
        rw [Array.getElem?_eq_getElem hi] at h1
        simp only at h1
        rw [Array.all_eq_true] at h1
        exact h1 k hk
      cases hbd : Region.binds .any (ops[i]).after[k] with
      | false => rfl
      | true =>
        rw [hbd] at hea
        have hlt : (ops[i]).after[k].on < i := by simpa using hea
        have := ih _ hlt (by omega)
        rw [this]; rfl

theorem none_listed (n j : Nat) : (Array.replicate n false).getD j false = false := by
  simp only [Array.getD_eq_getD_getElem?, Array.getElem?_replicate]
  split <;> rfl

/-- How many are not listed yet. -/
def left (listed : Array Bool) : Nat := (listed.toList.filter (fun b => !b)).length

end

/-- What is known of an operation's value: a fact, and the blocks that it speaks of. -/
structure Fact (B : Nat) where
  holds : Value → World → Prop
  foot : Value → World → Nat → Prop
  stay : ∀ {v : Value} {w w' : World} {row : Option Nat}, holds v w → w.grownBy w' row → (∀ b, foot v w b → row ≠ some b) → holds v w' ∧ ∀ b, foot v w' b → foot v w b
  lt : ∀ {v : Value} {w : World} {b : Nat}, holds v w → foot v w b → B ≤ b ∧ b < w.heap.size

/-- The plan of a region: the slot that each operation's fact speaks of, the operations whose blocks it takes over, and those that it looks at. -/
structure Plan where
  slots : List Nat
  kill : List (List Nat)
  need : List (List Nat)

def Plan.slot (p : Plan) (i : Nat) : Nat := p.slots.getD i 0
def Plan.kills (p : Plan) (i : Nat) : List Nat := p.kill.getD i []
def Plan.needs (p : Plan) (i : Nat) : List Nat := p.need.getD i []

def dstOf (ops : Array Oper) (i : Nat) : Option Nat := match ops[i]? with | some o => o.dst | none => none

def Plan.fits (p : Plan) (ops : Array Oper) (sz : Nat) : Bool :=
  early ops && (List.range ops.size).all fun i =>
    (match ops[i]? with | some o => (o.dst == none || o.dst == some (p.slot i)) && o.guard.isNone | none => false) && decide (p.slot i < sz) &&
    (List.range ops.size).all (fun j => i == j || dstOf ops i != some (p.slot j) || tied ops j i) &&
    (p.needs i).all (fun j => decide (j < ops.size) && tied ops i j && (List.range ops.size).all fun i' => (!(p.kills i').contains j) || i' == i) &&
    (p.kills i).all (fun j => (p.needs i).contains j)

section
variable {P : Program} {ops : Array Oper} {Q : Exit → Act → World → Prop} {B : Nat}

/-- What one operation leaves: its fact, and a world that has grown but for a row that the operation took over. -/
def Step (fact : Nat → Fact B) (p : Plan) (S : World → Prop) (i : Nat) (o : Oper) (a : Act) (w : World) : Act → World → Prop := fun a' w' =>
  ∃ v row, a' = a.put o.dst v ∧ S w' ∧ (fact i).holds (a'.tmps.getD (p.slot i) undef) w' ∧ w.grownBy w' row ∧
    (∀ b, row = some b → ∃ j, j ∈ p.kills i ∧ (fact j).foot (a.tmps.getD (p.slot j) undef) w b) ∧
    (∀ b, (fact i).foot (a'.tmps.getD (p.slot i) undef) w' b → w.heap.size ≤ b ∨ ∃ j, j ∈ p.kills i ∧ (fact j).foot (a.tmps.getD (p.slot j) undef) w b)

/-- Operation j has come up and nobody has taken its blocks over. -/
def Live (ops : Array Oper) (p : Plan) (listed : Array Bool) (j : Nat) : Prop :=
  j < ops.size ∧ listed.getD j false = true ∧ ∀ i, i < ops.size → j ∈ p.kills i → listed.getD i false = false

structure RegInv (ops : Array Oper) (fact : Nat → Fact B) (p : Plan) (S : World → Prop) (a0 : Act) (listed : Array Bool) (a : Act) (w : World) : Prop where
  size : listed.size = ops.size
  base : S w
  len : a.tmps.size = a0.tmps.size
  defs : a.defers = a0.defers
  old : ∀ k, (∀ i, i < ops.size → p.slot i ≠ k) → a.tmps[k]? = a0.tmps[k]?
  order : ∀ j i, j < ops.size → listed.getD j false = true → tied ops j i = true → listed.getD i false = true
  facts : ∀ j, Live ops p listed j → (fact j).holds (a.tmps.getD (p.slot j) undef) w
  apart : ∀ j k b, j ≠ k → Live ops p listed j → Live ops p listed k → (fact j).foot (a.tmps.getD (p.slot j) undef) w b → (fact k).foot (a.tmps.getD (p.slot k) undef) w b → False

variable {fact : Nat → Fact B} {p : Plan} {S : World → Prop} {a0 : Act}

theorem listed_set {listed : Array Bool} {i : Nat} (hi : i < listed.size) (k : Nat) : (listed.setIfInBounds i true).getD k false = if i = k then true else listed.getD k false := by
  simp only [Array.getD_eq_getD_getElem?]
  by_cases h : i = k
  · subst h; simp [hi]
  · simp [h]

theorem tmps_other {a : Act} {dst : Option Nat} {v : Value} {k : Nat} (h : dst ≠ some k) : (a.put dst v).tmps[k]? = a.tmps[k]? := by
  cases dst with
  | none => rfl
  | some d => exact Array.getElem?_setIfInBounds_ne (fun e => h (by rw [e]))

theorem put_len (a : Act) (dst : Option Nat) (v : Value) : (a.put dst v).tmps.size = a.tmps.size := by
  cases dst <;> simp [Act.put]
theorem put_defs (a : Act) (dst : Option Nat) (v : Value) : (a.put dst v).defers = a.defers := by
  cases dst <;> rfl

theorem RegInv.step {listed : Array Bool} {a : Act} {w : World} {i : Nat} {o : Oper} (h : RegInv ops fact p S a0 listed a w) (hi : i < ops.size) (ho : o.dst = none ∨ o.dst = some (p.slot i)) (hu : listed.getD i false = false)
    (hother : ∀ j, j < ops.size → j ≠ i → listed.getD j false = true → o.dst ≠ some (p.slot j))
    (hfore : ∀ j, tied ops i j = true → listed.getD j false = true)
    (hk : ∀ j, j ∈ p.kills i → j < ops.size ∧ listed.getD j false = true ∧ ∀ i', i' < ops.size → j ∈ p.kills i' → i' = i)
    {a' : Act} {w' : World} (hst : Step fact p S i o a w a' w') : RegInv ops fact p S a0 (listed.setIfInBounds i true) a' w' := by
  obtain ⟨v, row, rfl, hS, hFi, hg, hrow, hfoot⟩ := hst
  have hil : i < listed.size := by rw [h.size]; exact hi
  have hsame : ∀ j, j < ops.size → j ≠ i → listed.getD j false = true → (a.put o.dst v).tmps.getD (p.slot j) undef = a.tmps.getD (p.slot j) undef := by
    intro j hj hne hl
    simp only [Array.getD_eq_getD_getElem?, tmps_other (hother j hj hne hl)]
  -- a victim is live
  have live : ∀ j, j ∈ p.kills i → j ≠ i ∧ Live ops p listed j := by
    intro j hj
    obtain ⟨h1, h2, h3⟩ := hk j hj
    refine ⟨fun e => (by rw [e, hu] at h2; cases h2), h1, h2, fun i' hi' hk' => (by rw [h3 i' hi' hk']; exact hu)⟩
  -- what is live afterwards and is not i was live, and i did not take it over
  have back : ∀ j, j ≠ i → Live ops p (listed.setIfInBounds i true) j → Live ops p listed j ∧ j ∉ p.kills i := by
    rintro j hj ⟨h0, h1, h2⟩
    rw [listed_set hil, if_neg (fun e => hj e.symm)] at h1
    refine ⟨⟨h0, h1, fun i' hi' hk' => ?_⟩, fun e => ?_⟩
    · have := h2 i' hi' hk'
      rw [listed_set hil] at this
      split at this
      · cases this
      · exact this
    · have := h2 i hi e
      rw [listed_set hil, if_pos rfl] at this
      cases this
  have kept : ∀ j, j ≠ i → Live ops p listed j → j ∉ p.kills i → (fact j).holds (a.tmps.getD (p.slot j) undef) w' ∧ ∀ b, (fact j).foot (a.tmps.getD (p.slot j) undef) w' b → (fact j).foot (a.tmps.getD (p.slot j) undef) w b := by
    intro j hne hl hnk
    refine (fact j).stay (h.facts j hl) hg fun b hb hr => ?_
    obtain ⟨j', hj', hf⟩ := hrow b hr
    exact h.apart j j' b (fun e => hnk (e ▸ hj')) hl (live j' hj').2 hb hf
  refine ⟨by simp [h.size], hS, ?_, ?_, ?_, ?_, ?_, ?_⟩
  · rw [put_len]; exact h.len
  · rw [put_defs]; exact h.defs
  · intro k hkk
    rw [tmps_other (fun e => ?_)]
    · exact h.old k hkk
    · rcases ho with e' | e'
      · rw [e'] at e; cases e
      · rw [e'] at e; exact hkk i hi (Option.some.inj e)
  · intro j k hj hl ht
    rw [listed_set hil] at hl ⊢
    split
    · rfl
    · split at hl
      · rename_i e; subst e; exact hfore k ht
      · exact h.order j k hj hl ht
  · intro j hj
    by_cases e : j = i
    · subst e; exact hFi
    · obtain ⟨b1, b2⟩ := back j e hj
      rw [hsame j b1.1 e b1.2.1]
      exact (kept j e b1 b2).1
  · have one : ∀ k b, k ≠ i → Live ops p (listed.setIfInBounds i true) k → (fact i).foot ((a.put o.dst v).tmps.getD (p.slot i) undef) w' b → (fact k).foot ((a.put o.dst v).tmps.getD (p.slot k) undef) w' b → False := by
      intro k b hne hl hb hbk
      obtain ⟨b1, b2⟩ := back k hne hl
      rw [hsame k b1.1 hne b1.2.1] at hbk
      have hbk' := (kept k hne b1 b2).2 b hbk
      rcases hfoot b hb with hge | ⟨j', hj', hf⟩
      · have := ((fact k).lt (h.facts k b1) hbk').2
        omega
      · exact h.apart k j' b (fun e => b2 (e ▸ hj')) b1 (live j' hj').2 hbk' hf
    intro j k b hne hj hk' hfj hfk
    by_cases ej : j = i
    · subst ej
      exact one k b (fun e => hne e.symm) hk' hfj hfk
    · by_cases ek : k = i
      · subst ek
        exact one j b hne hj hfk hfj
      · obtain ⟨b1, b2⟩ := back j ej hj
        obtain ⟨c1, c2⟩ := back k ek hk'
        rw [hsame j b1.1 ej b1.2.1] at hfj
        rw [hsame k c1.1 ek c1.2.1] at hfk
        exact h.apart j k b hne b1 c1 ((kept j ej b1 b2).2 b hfj) ((kept k ek c1 c2).2 b hfk)

theorem left_set {listed : Array Bool} {i : Nat} (hi : i < listed.size) (hu : listed.getD i false = false) : left (listed.setIfInBounds i true) + 1 = left listed := by
  unfold left
  obtain ⟨l⟩ := listed
  simp only [List.size_toArray] at hi
  simp only [Array.getD_eq_getD_getElem?, List.getElem?_toArray] at hu
  simp only [List.setIfInBounds_toArray]
  induction l generalizing i with
  | nil => simp at hi
  | cons b l ih =>
    cases i with
    | zero => simp at hu; subst hu; simp
    | succ i =>
      simp only [List.getElem?_cons_succ] at hu
      have := ih (by simpa using hi) hu
      simp only [List.set_cons_succ, List.filter_cons]
      split <;> simp_all <;> omega

theorem left_zero {listed : Array Bool} (h : left listed = 0) : ∀ i, listed.getD i true = true := by
  intro i
  unfold left at h
  have h' := List.eq_nil_of_length_eq_zero h
  rw [List.filter_eq_nil_iff] at h'
  simp only [Array.getD_eq_getD_getElem?]
  cases e : listed[i]? with
  | none => rfl
  | some b =>
    have hm : b ∈ listed.toList := by
      rw [← Array.getElem?_toList] at e
      exact List.mem_of_getElem? e
    have := h' b hm
    cases b
    · simp at this
    · rfl

theorem wpAny_facts (hd : ∀ i o, ops[i]? = some o → (o.dst = none ∨ o.dst = some (p.slot i)) ∧ o.guard = none)
    (hother : ∀ i j o, ops[i]? = some o → j < ops.size → i ≠ j → o.dst = some (p.slot j) → tied ops j i = true)
    (he : early ops = true)
    (hneed : ∀ i j, i < ops.size → j ∈ p.needs i → j < ops.size ∧ tied ops i j = true ∧ ∀ i', i' < ops.size → j ∈ p.kills i' → i' = i)
    (hkill : ∀ i j, i < ops.size → j ∈ p.kills i → j ∈ p.needs i)
    (hstep : ∀ i o a w, ops[i]? = some o → S w → (∀ k, (∀ i, i < ops.size → p.slot i ≠ k) → a.tmps[k]? = a0.tmps[k]?) → (∀ j, j ∈ p.needs i → (fact j).holds (a.tmps.getD (p.slot j) undef) w) →
      (∀ j k b, j ∈ p.needs i → k ∈ p.needs i → j ≠ k → (fact j).foot (a.tmps.getD (p.slot j) undef) w b → (fact k).foot (a.tmps.getD (p.slot k) undef) w b → False) → a.tmps.size = a0.tmps.size →
      o.wp P a w (Step fact p S i o a w) Q)
    (hend : ∀ a w, S w → a.tmps.size = a0.tmps.size → a.defers = a0.defers → (∀ k, (∀ i, i < ops.size → p.slot i ≠ k) → a.tmps[k]? = a0.tmps[k]?) →
      (∀ j, j < ops.size → (∀ i, i < ops.size → j ∉ p.kills i) → (fact j).holds (a.tmps.getD (p.slot j) undef) w) → Q .normal a w) :
    ∀ (fuel : Nat) (listed : Array Bool) (a : Act) (w : World), left listed = fuel → RegInv ops fact p S a0 listed a w → wpAny P .any ops Q fuel listed a w := by
  intro fuel
  have fin : ∀ (listed : Array Bool) (a : Act) (w : World), Region.ready .any ops listed = [] → RegInv ops fact p S a0 listed a w → Q .normal a w := by
    intro listed a w hr h
    have hall := ready_all he h.size hr
    exact hend a w h.base h.len h.defs h.old fun j hj hnk => h.facts j ⟨hj, hall j hj, fun i hi e => absurd e (hnk i hi)⟩
  induction fuel with
  | zero =>
    intro listed a w hl h
    have hr : Region.ready .any ops listed = [] := by
      unfold Region.ready
      rw [List.filter_eq_nil_iff]
      intro i _
      rw [left_zero hl i]
      simp
    exact ⟨hr, fin listed a w hr h⟩
  | succ fuel ih =>
    intro listed a w hl h
    refine ⟨fun hr => fin listed a w hr h, fun i hi => ?_⟩
    obtain ⟨h1, h2, h3⟩ := ready_of hi
    have hil : i < listed.size := by rw [h.size]; exact h1
    have hu : listed.getD i false = false := by
      simp only [Array.getD_eq_getD_getElem?, Array.getElem?_eq_getElem hil, Option.getD_some] at h2 ⊢; exact h2
    have ho : ops[i]? = some ops[i] := Array.getElem?_eq_getElem h1
    obtain ⟨hdst, hgd⟩ := hd i _ ho
    unfold wpOp
    rw [ho]
    simp only
    have hw : Region.wanted ops[i] (yielded ops a.tmps) = true := by simp [Region.wanted, hgd]
    rw [if_pos hw]
    have hlive : ∀ j, j ∈ p.needs i → Live ops p listed j := fun j hj => by
      obtain ⟨n1, n2, n3⟩ := hneed i j h1 hj
      exact ⟨n1, h3 j n2, fun i' hi' hk' => by rw [n3 i' hi' hk']; exact hu⟩
    refine .inl (Oper.wp_mono (fun a' w' hst => ?_) (hstep i _ a w ho h.base h.old (fun j hj => h.facts j (hlive j hj)) (fun j k b hj hk hne => h.apart j k b hne (hlive j hj) (hlive k hk)) h.len))
    refine ih _ a' w' ?_ (h.step h1 hdst hu (fun j hj hne hjl e => ?_) h3 (fun j hj => ?_) hst)
    · have := left_set hil hu; omega
    · have ht := hother i j _ ho hj (fun e' => hne e'.symm) e
      have := h.order j i hj hjl ht
      rw [hu] at this; cases this
    · obtain ⟨n1, n2, n3⟩ := hneed i j h1 (hkill i j h1 hj)
      exact ⟨n1, h3 j n2, n3⟩

def holdsAll (fact : Nat → Fact B) (p : Plan) (a : Act) (w : World) : List Nat → Prop
  | [] => True
  | j :: l => (fact j).holds (a.tmps.getD (p.slot j) undef) w ∧ holdsAll fact p a w l

theorem holdsAll_of {a : Act} {w : World} : ∀ {l : List Nat}, (∀ j, j ∈ l → (fact j).holds (a.tmps.getD (p.slot j) undef) w) → holdsAll fact p a w l
  | [], _ => trivial
  | j :: l, h => ⟨h j List.mem_cons_self, holdsAll_of fun k hk => h k (List.mem_cons_of_mem _ hk)⟩

/-- The blocks of what operation i looks at are apart. -/
def Apart (fact : Nat → Fact B) (p : Plan) (a : Act) (w : World) (i : Nat) : Prop :=
  ∀ j k b, j ∈ p.needs i → k ∈ p.needs i → j ≠ k → (fact j).foot (a.tmps.getD (p.slot j) undef) w b → (fact k).foot (a.tmps.getD (p.slot k) undef) w b → False

/-- The operations from number i on, each shown once. -/
def stepsFrom (P : Program) (Q : Exit → Act → World → Prop) (p : Plan) (fact : Nat → Fact B) (S : World → Prop) (a0 : Act) : Nat → List Oper → Prop
  | _, [] => True
  | i, o :: l => (∀ a w, S w → (∀ k, p.slots.contains k = false → a.tmps.getD k undef = a0.tmps.getD k undef) → holdsAll fact p a w (p.needs i) → Apart fact p a w i → a.tmps.size = a0.tmps.size →
      o.wp P a w (Step fact p S i o a w) Q) ∧ stepsFrom P Q p fact S a0 (i + 1) l

theorem stepsFrom_at : ∀ {l : List Oper} {n : Nat}, stepsFrom P Q p fact S a0 n l → ∀ {i : Nat} {o : Oper}, l[i]? = some o →
    ∀ a w, S w → (∀ k, p.slots.contains k = false → a.tmps.getD k undef = a0.tmps.getD k undef) → holdsAll fact p a w (p.needs (n + i)) → Apart fact p a w (n + i) → a.tmps.size = a0.tmps.size →
      o.wp P a w (Step fact p S (n + i) o a w) Q
  | [], _, _, i, o, ho => by simp at ho
  | x :: l, n, h, i, o, ho => by
    cases i with
    | zero => simp at ho; subst ho; exact h.1
    | succ i =>
      simp only [List.getElem?_cons_succ] at ho
      have := stepsFrom_at h.2 ho
      rwa [show n + 1 + i = n + (i + 1) by omega] at this

/-- THE RULE: a region that draws its order, by the facts of its operations. -/
theorem wp_region_plan {id : Nat} {w : World} (hm : P.follows .mixedOrders = true) (p : Plan) (fact : Nat → Fact B) (S : World → Prop)
    (hc : p.fits ops a0.tmps.size = true) (hslots : p.slots.length = ops.size) (h0 : S w.drew) (hstep : stepsFrom P Q p fact S a0 0 ops.toList)
    (hend : ∀ a w, S w → a.tmps.size = a0.tmps.size → a.defers = a0.defers → (∀ k, p.slots.contains k = false → a.tmps.getD k undef = a0.tmps.getD k undef) → (∀ j, j < ops.size → (∀ i, i < ops.size → j ∉ p.kills i) → (fact j).holds (a.tmps.getD (p.slot j) undef) w) → Q .normal a w) :
    (Code.region id ops true).wp P Q a0 w := by
  unfold Plan.fits at hc
  rw [Bool.and_eq_true, List.all_eq_true] at hc
  obtain ⟨he, hc⟩ := hc
  have hc' : ∀ i, i < ops.size → _ := fun i hi => hc i (List.mem_range.2 hi)
  simp only [Bool.and_eq_true, decide_eq_true_eq, List.all_eq_true, List.mem_range, Bool.or_eq_true, beq_iff_eq, bne_iff_ne, ne_eq, Bool.not_eq_true', List.contains_eq_mem, decide_eq_false_iff_not] at hc'
  have other : ∀ k, p.slots.contains k = false → ∀ i, i < ops.size → p.slot i ≠ k := by
    intro k hk i hi e
    have hm : k ∈ p.slots := by
      rw [← e]
      unfold Plan.slot
      have hi' : i < p.slots.length := by omega
      rw [List.getD_eq_getElem?_getD, List.getElem?_eq_getElem hi']
      exact List.getElem_mem hi'
    rw [List.contains_eq_mem] at hk
    simp [hm] at hk
  have toGetD : ∀ {a : Act}, (∀ k, (∀ i, i < ops.size → p.slot i ≠ k) → a.tmps[k]? = a0.tmps[k]?) → ∀ k, p.slots.contains k = false → a.tmps.getD k undef = a0.tmps.getD k undef := by
    intro a h k hk
    simp only [Array.getD_eq_getD_getElem?, h k (other k hk)]
  refine wp_region_any hm (wpAny_facts (fact := fact) (p := p) (S := S) (a0 := a0) ?_ ?_ he ?_ ?_ ?_ ?_ ops.size _ a0 _ ?_ ⟨by simp, h0, rfl, rfl, fun _ _ => rfl, ?_, ?_, ?_⟩)
  · intro i o ho
    have hi : i < ops.size := (Array.getElem?_eq_some_iff.1 ho).1
    have := (hc' i hi).1.1.1.1
    rw [ho] at this
    simp only [Bool.and_eq_true, Bool.or_eq_true, beq_iff_eq, Option.isNone_iff_eq_none] at this
    exact this
  · intro i j o ho hj hne e
    have hi : i < ops.size := (Array.getElem?_eq_some_iff.1 ho).1
    rcases (hc' i hi).1.1.2 j hj with (h | h) | h
    · exact absurd h hne
    · exfalso; apply h; unfold dstOf; rw [ho]; exact e
    · exact h
  · intro i j hi hj
    obtain ⟨⟨h1, h2⟩, h3⟩ := (hc' i hi).1.2 j hj
    refine ⟨h1, h2, fun i' hi' hk => ?_⟩
    rcases h3 i' hi' with h | h
    · exact absurd hk h
    · exact h
  · intro i j hi hj
    exact (hc' i hi).2 j hj
  · intro i o a w ho hS hold hn hap hsz
    have := stepsFrom_at hstep (i := i) (o := o) (by simpa using ho) a w hS (toGetD hold) (by rw [Nat.zero_add]; exact holdsAll_of hn) (by rw [Nat.zero_add]; exact hap) hsz
    rwa [Nat.zero_add] at this
  · intro a w hS hsz hdf hold hf
    exact hend a w hS hsz hdf (toGetD hold) hf
  · unfold left
    simp
  · intro j i hj hl
    rw [none_listed] at hl; cases hl
  · rintro j ⟨hj, hl, _⟩
    rw [none_listed] at hl; cases hl
  · rintro j k b _ ⟨hj, hl, _⟩
    rw [none_listed] at hl; cases hl
end

/-! ### Facts. -/
/-- A row of integers that the call owns. -/
def Fact.own {B : Nat} (t : TypeId) (n : Nat) (xs : List Value) : Fact B where
  holds v w := w.ownsRow B t 1 v n xs
  foot v _ b := v.ownBlock = some b
  stay := fun {v w w' row} h hg hr => ⟨World.ownsRow.kept h hg (by
    cases e : v.ownBlock with
    | none => exact .inl rfl
    | some b => exact .inr fun e' => hr b e e'.symm), fun b hb => hb⟩
  lt := fun h hb => World.ownsRow.lt h _ hb
/-- A value that is known. -/
def Fact.val {B : Nat} (u : Value) : Fact B where
  holds v _ := v = u
  foot _ _ _ := False
  stay := fun h _ _ => ⟨h, fun _ hb => hb⟩
  lt := fun _ hb => hb.elim
def Fact.any {B : Nat} : Fact B where
  holds _ _ := True
  foot _ _ _ := False
  stay := fun h _ _ => ⟨h, fun _ hb => hb⟩
  lt := fun _ hb => hb.elim
/-- A new variable, of cells that are known. -/
def Fact.box {B : Nat} (t : TypeId) (cs : Array Value) : Fact B where
  holds v w := ∃ b, v = .pointer (some ⟨b, 0, none⟩) ∧ B ≤ b ∧ w.heap[b]? = some (.cells cs t (0, 0))
  foot v _ b := v = .pointer (some ⟨b, 0, none⟩)
  stay := fun {v w w' row} h hg hr => by
    obtain ⟨b, rfl, hb, hc⟩ := h
    refine ⟨⟨b, rfl, hb, (hg.block b (Array.getElem?_eq_some_iff.1 hc).1 fun e => hr b rfl e.symm).trans hc⟩, fun b hb => hb⟩
  lt := fun {v w b} h hb => by
    obtain ⟨b', rfl, hb', hc⟩ := h
    cases hb
    exact ⟨hb', (Array.getElem?_eq_some_iff.1 hc).1⟩
/-- A pair of a row that the call owns and a value. -/
def Fact.pair {B : Nat} (t : TypeId) (n : Nat) (xs : List Value) (u : Value) : Fact B where
  holds v w := ∃ r, v = .agg #[r, u] ∧ w.ownsRow B t 1 r n xs
  foot v _ b := ∃ r, v = .agg #[r, u] ∧ r.ownBlock = some b
  stay := fun {v w w' row} h hg hr => by
    obtain ⟨r, rfl, ho⟩ := h
    exact ⟨⟨r, rfl, World.ownsRow.kept ho hg (by
      cases e : r.ownBlock with
      | none => exact .inl rfl
      | some b => exact .inr fun e' => hr b ⟨r, rfl, e⟩ e'.symm)⟩, fun b hb => hb⟩
  lt := fun {v w b} h hb => by
    obtain ⟨r, rfl, ho⟩ := h
    obtain ⟨r', e, hb⟩ := hb
    cases e
    exact World.ownsRow.lt ho b hb
/-- A new variable that holds such a pair. -/
def Fact.pairBox {B : Nat} (T t : TypeId) (n : Nat) (xs : List Value) (u : Value) : Fact B where
  holds v w := ∃ b r, v = .pointer (some ⟨b, 0, none⟩) ∧ B ≤ b ∧ w.heap[b]? = some (.cells #[r, u] T (0, 0)) ∧ w.ownsRow B t 1 r n xs ∧ r.ownBlock ≠ some b
  foot v w k := ∃ b r, v = .pointer (some ⟨b, 0, none⟩) ∧ w.heap[b]? = some (.cells #[r, u] T (0, 0)) ∧ (k = b ∨ r.ownBlock = some k)
  stay := fun {v w w' row} h hg hr => by
    obtain ⟨b, r, rfl, hb, hc, ho, hne⟩ := h
    have hc' := (hg.block b (Array.getElem?_eq_some_iff.1 hc).1 fun e => hr b ⟨b, r, rfl, hc, .inl rfl⟩ e.symm).trans hc
    refine ⟨⟨b, r, rfl, hb, hc', World.ownsRow.kept ho hg (by
      cases e : r.ownBlock with
      | none => exact .inl rfl
      | some k => exact .inr fun e' => hr k ⟨b, r, rfl, hc, .inr e⟩ e'.symm), hne⟩, ?_⟩
    rintro k ⟨b', r', e, hc2, hk⟩
    cases e
    rw [hc'] at hc2
    simp only [Option.some.injEq, Obj.cells.injEq, Array.mk.injEq, List.cons.injEq, and_true] at hc2
    obtain rfl := hc2
    exact ⟨b, r, rfl, hc, hk⟩
  lt := fun {v w k} h hb => by
    obtain ⟨b, r, rfl, hb', hc, ho, _⟩ := h
    obtain ⟨b2, r2, e, hc2, hk⟩ := hb
    cases e
    rw [hc] at hc2
    simp only [Option.some.injEq, Obj.cells.injEq, Array.mk.injEq, List.cons.injEq, and_true] at hc2
    obtain rfl := hc2
    rcases hk with rfl | hk
    · exact ⟨hb', (Array.getElem?_eq_some_iff.1 hc).1⟩
    · exact World.ownsRow.lt ho k hk

theorem own_slice {w : World} {B n m : Nat} {t : TypeId} {v : Value} {xs : List Value} (h : w.ownsRow B t m v n xs) : ∃ A c, v = .slice A n c := by
  rcases h.2 with ⟨rfl, rfl⟩ | ⟨g, cap, cur, rfl, _⟩
  · exact ⟨none, 0, rfl⟩
  · exact ⟨_, _, rfl⟩
theorem grown_same (w : World) : w.grownBy w none := ⟨rfl, rfl, rfl, Nat.le_refl _, fun _ _ _ => rfl⟩
theorem put_slot {a : Act} {o : Oper} {v : Value} {k : Nat} (ho : o.dst = some k) (hk : k < a.tmps.size) : (a.put o.dst v).tmps.getD k undef = v := by
  rw [ho]
  show (a.tmps.setIfInBounds k v).getD k undef = v
  simp only [Array.getD_eq_getD_getElem?]
  simp [hk]

section
variable {P : Program} {Q : Exit → Act → World → Prop} {B : Nat} {S : World → Prop} {p : Plan} {i : Nat} {o : Oper} {a : Act} {w : World} {fact : Nat → Fact B} {t : TypeId}

/-- An operation that only reads. -/
theorem step_val {u : Value} (hf : fact i = .val u) (hd : o.dst = some (p.slot i)) (hs : p.slot i < a.tmps.size) (hx : (execOp a.eval o).run P w = .ok (.value u) w) (hS : S w) :
    o.wp P a w (Step fact p S i o a w) Q := by
  unfold Oper.wp
  rw [hx, Oper.upon_value]
  refine ⟨u, none, rfl, hS, ?_, grown_same w, fun b h => (by cases h), fun b h => ?_⟩
  · rw [hf, put_slot hd hs]; rfl
  · rw [hf] at h; exact h.elim

/-- A row that is written out. -/
theorem step_lit {cs : Array Value} {n : Nat} (hf : fact i = .own t n cs.toList) (hd : o.dst = some (p.slot i)) (hs : p.slot i < a.tmps.size) (hn : cs.size = n) (hm : n ≤ maxLen) (hB : B ≤ w.heap.size) (hx : (execOp a.eval o).run P w = .ok (.value (.slice (some ⟨w.heap.size, 0, none⟩) n n)) (w.alloc (.cells cs t))) (hS : S (w.alloc (.cells cs t))) :
    o.wp P a w (Step fact p S i o a w) Q := by
  unfold Oper.wp
  rw [hx, Oper.upon_value]
  refine ⟨_, none, rfl, hS, ?_, World.grownBy_alloc w _ none, fun b h => (by cases h), fun b h => ?_⟩
  · rw [hf, put_slot hd hs]; exact World.ownsRow_lit w cs n hB hm (by omega)
  · rw [hf, put_slot hd hs] at h
    have h : (Value.slice (some ⟨w.heap.size, 0, none⟩) n n).ownBlock = some b := h
    simp [Value.ownBlock] at h
    exact .inl (Nat.le_of_eq h)

/-- An append onto a row that the call owns. -/
theorem step_more {j m : Nat} {n : Nat} {xs ys : List Value} (hf : fact i = .own t (n + m) (xs ++ ys)) (hd : o.dst = some (p.slot i)) (hs : p.slot i < a.tmps.size) (hk : p.kills i = [j]) (hj : fact j = .own t n xs)
    (hx : ∃ v' w', (execOp a.eval o).run P w = .ok (.value v') w' ∧ w'.ownsRow B t 1 v' (n + m) (xs ++ ys) ∧ w.grownBy w' (a.tmps.getD (p.slot j) undef).ownBlock ∧ (v'.ownBlock = (a.tmps.getD (p.slot j) undef).ownBlock ∨ v'.ownBlock = some w.heap.size ∨ v'.ownBlock = none))
    (hS : ∀ w', w.grownBy w' (a.tmps.getD (p.slot j) undef).ownBlock → S w') :
    o.wp P a w (Step fact p S i o a w) Q := by
  obtain ⟨v', w', hx, hown, hg, hl⟩ := hx
  unfold Oper.wp
  rw [hx, Oper.upon_value]
  refine ⟨v', _, rfl, hS w' hg, ?_, hg, fun b h => ⟨j, by rw [hk]; exact List.mem_cons_self, ?_⟩, fun b h => ?_⟩
  · rw [hf, put_slot hd hs]; exact hown
  · rw [hj]; exact h
  · rw [hf, put_slot hd hs] at h
    have h : v'.ownBlock = some b := h
    rcases hl with hl | hl | hl
    · refine .inr ⟨j, by rw [hk]; exact List.mem_cons_self, ?_⟩
      rw [hj]; exact (show (a.tmps.getD (p.slot j) undef).ownBlock = some b from hl ▸ h)
    · rw [hl] at h; cases h; exact .inl (Nat.le_refl _)
    · rw [hl] at h; cases h

/-- A row is passed on. -/
theorem step_pass {j n : Nat} {v : Value} {xs : List Value} (hf : fact i = .own t n xs) (hd : o.dst = some (p.slot i)) (hs : p.slot i < a.tmps.size) (hk : p.kills i = [j]) (hj : fact j = .own t n xs) (hr : a.tmps.getD (p.slot j) undef = v)
    (ho : w.ownsRow B t 1 v n xs) (hx : (execOp a.eval o).run P w = .ok (.value v) w) (hS : S w) :
    o.wp P a w (Step fact p S i o a w) Q := by
  unfold Oper.wp
  rw [hx, Oper.upon_value]
  refine ⟨_, none, rfl, hS, ?_, grown_same w, fun b h => (by cases h), fun b h => .inr ⟨j, by rw [hk]; exact List.mem_cons_self, ?_⟩⟩
  · rw [hf, put_slot hd hs]; exact ho
  · rw [hf, put_slot hd hs] at h
    rw [hj, hr]; exact h

/-- A call of a function that gives a value and turns nothing. -/
theorem step_call {u : Value} {f : FuncId} {args : Array Value} (hf : fact i = .val u) (hd : o.dst = some (p.slot i)) (hs : p.slot i < a.tmps.size) (hx : (execOp a.eval o).run P w = .ok (.enter f args) w) (hc : Calls P f args w fun e w' => e = .returned u ∧ S w' ∧ w.grownBy w' none) :
    o.wp P a w (Step fact p S i o a w) Q := by
  unfold Oper.wp
  rw [hx, Oper.upon_enter]
  refine Calls.mono hc ?_
  rintro e w' ⟨rfl, hS, hg⟩
  refine ⟨u, none, rfl, hS, ?_, hg, fun b h => (by cases h), fun b h => ?_⟩
  · rw [hf, put_slot hd hs]; rfl
  · rw [hf] at h; exact h.elim

/-- A new variable. -/
theorem step_box {T : TypeId} {cs : Array Value} (hf : fact i = .box T cs) (hd : o.dst = some (p.slot i)) (hs : p.slot i < a.tmps.size) (hB : B ≤ w.heap.size) (hx : (execOp a.eval o).run P w = .ok (.value (.pointer (some ⟨w.heap.size, 0, none⟩))) (w.alloc (.cells cs T))) (hS : S (w.alloc (.cells cs T))) :
    o.wp P a w (Step fact p S i o a w) Q := by
  unfold Oper.wp
  rw [hx, Oper.upon_value]
  refine ⟨_, none, rfl, hS, ?_, World.grownBy_alloc w _ none, fun b h => (by cases h), fun b h => ?_⟩
  · rw [hf, put_slot hd hs]; exact ⟨_, rfl, hB, heap_alloc_new w _⟩
  · rw [hf, put_slot hd hs] at h
    have h : Value.pointer (some ⟨w.heap.size, 0, none⟩) = .pointer (some ⟨b, 0, none⟩) := h
    cases h
    exact .inl (Nat.le_refl _)

/-- A pair is built. -/
theorem step_pair {j n : Nat} {r u : Value} {xs : List Value} (hf : fact i = .pair t n xs u) (hd : o.dst = some (p.slot i)) (hs : p.slot i < a.tmps.size) (hk : p.kills i = [j]) (hj : fact j = .own t n xs) (hr : a.tmps.getD (p.slot j) undef = r)
    (ho : w.ownsRow B t 1 r n xs) (hx : (execOp a.eval o).run P w = .ok (.value (.agg #[r, u])) w) (hS : S w) :
    o.wp P a w (Step fact p S i o a w) Q := by
  unfold Oper.wp
  rw [hx, Oper.upon_value]
  refine ⟨_, none, rfl, hS, ?_, grown_same w, fun b h => (by cases h), fun b h => .inr ⟨j, by rw [hk]; exact List.mem_cons_self, ?_⟩⟩
  · rw [hf, put_slot hd hs]; exact ⟨r, rfl, ho⟩
  · rw [hf, put_slot hd hs] at h
    obtain ⟨r', e, hb⟩ := h
    simp only [Value.agg.injEq, Array.mk.injEq, List.cons.injEq, and_true] at e
    subst e
    rw [hj, hr]; exact hb

/-- The pair is laid into the new variable. -/
theorem step_lay {j k n : Nat} {T : TypeId} {u : Value} {xs : List Value} {cs : Array Value} (hf : fact i = .pairBox T t n xs u) (hd : o.dst = none) (hk : p.kills i = [j, k]) (hne : j ≠ k) (hj : fact j = .pair t n xs u) (hkk : fact k = .box T cs) (hsl : p.slot i = p.slot k)
    (hn : p.needs i = [j, k]) (h : holdsAll fact p a w [j, k]) (hap : Apart fact p a w i)
    (hx : ∀ b r, a.tmps.getD (p.slot k) undef = .pointer (some ⟨b, 0, none⟩) → a.tmps.getD (p.slot j) undef = .agg #[r, u] → w.heap[b]? = some (.cells cs T (0, 0)) → B ≤ b → w.ownsRow B t 1 r n xs → ∃ w', (execOp a.eval o).run P w = .ok .skip w' ∧ w.grownBy w' (some b) ∧ w'.heap[b]? = some (.cells #[r, u] T (0, 0)) ∧ S w') :
    o.wp P a w (Step fact p S i o a w) Q := by
  obtain ⟨h1, h2, _⟩ := h
  rw [hj] at h1
  rw [hkk] at h2
  obtain ⟨r, hr, ho⟩ := h1
  obtain ⟨b, hb, hB, hc⟩ := h2
  obtain ⟨w', hx, hg, hc', hS⟩ := hx b r hb hr hc hB ho
  have hne2 : r.ownBlock ≠ some b := fun e => hap j k b (by rw [hn]; simp) (by rw [hn]; simp) hne (by rw [hj]; exact ⟨r, hr, e⟩) (by rw [hkk]; exact hb)
  unfold Oper.wp
  rw [hx, Oper.upon_skip]
  refine ⟨undef, some b, rfl, hS, ?_, hg, ?_, ?_⟩
  · rw [hf, hd, hsl]
    show ∃ b r, a.tmps.getD (p.slot k) undef = _ ∧ _
    exact ⟨b, r, hb, hB, hc', World.ownsRow.kept ho hg (.inr hne2), hne2⟩
  · rintro b' e
    cases e
    exact ⟨k, by rw [hk]; simp, by rw [hkk]; exact hb⟩
  · intro b' h
    rw [hf, hd, hsl] at h
    obtain ⟨b2, r2, e2, hc2, h2⟩ := h
    have e2 : a.tmps.getD (p.slot k) undef = _ := e2
    rw [hb] at e2
    cases e2
    rw [hc'] at hc2
    simp only [Option.some.injEq, Obj.cells.injEq, Array.mk.injEq, List.cons.injEq, and_true] at hc2
    obtain rfl := hc2
    rcases h2 with rfl | h2
    · exact .inr ⟨k, by rw [hk]; simp, by rw [hkk]; exact hb⟩
    · exact .inr ⟨j, by rw [hk]; simp, by rw [hj]; exact ⟨r, hr, h2⟩⟩

theorem slot_lt {a : Act} {m k : Nat} (h : Hid (a.tmps.size = m)) (hk : decide (k < m) = true) : k < a.tmps.size := by
  rw [h.out]; exact of_decide_eq_true hk

theorem getd {a : Act} {k : Nat} {v : Value} (h : a.tmps.getD k undef = v) : a.tmps[k]?.getD undef = v := by simpa using h

/-- The frame, written out: what the region has not turned as it was, the rest as it stands. -/
theorem act_lit {a a0 : Act} {n : Nat} (p : Plan) (h : a.tmps.size = n) (hd : a.defers = a0.defers) (hk : ∀ k, p.slots.contains k = false → a.tmps.getD k undef = a0.tmps.getD k undef) :
    a = ⟨((List.range n).map fun k => bif p.slots.contains k then a.tmps.getD k undef else a0.tmps.getD k undef).toArray, a0.defers⟩ := by
  obtain ⟨t, df⟩ := a
  simp only at h hd hk ⊢
  rw [hd]
  congr 1
  apply Array.ext
  · simp [h]
  · intro k h1 h2
    simp only [List.getElem_toArray, List.getElem_map, List.getElem_range]
    cases e : p.slots.contains k
    · simp only [cond_false]
      rw [← hk k e]
      simp [Array.getD, h1]
    · simp [Array.getD, h1]

/-- The append as an operation. -/
theorem exec_append {v s x : Value} {w' : World} {t1 t2 : TypeId} {p q : Operand} (ho : o.op = .call { callee := .builtin .append, args := #[p, q], argTypes := #[t1, t2] }) (hs : a.eval p = s) (hx : a.eval q = x) (hr : (Builtin.append_ #[t1, t2] o.type #[s, x]).run P w = .ok v w') :
    (execOp a.eval o).run P w = .ok (.value v) w' := by
  unfold execOp
  simp only [ho, resolve, invoke, builtin, Sem.run_bind, Sem.run_pure, Result.andThen_ok, List.map_toArray, List.map_cons, List.map_nil, hs, hx, hr]
end
end Go.Proofs.YtkgnlloioaobiaaGreat

/-
  slices.Clone at every slice; cond.shifted; wide.Fits.
-/
namespace Go.Proofs.YtkgnlloioaobiaaGreat
open Go.RowKit
set_option linter.unusedVariables false
set_option maxRecDepth 100000
set_option linter.unusedSimpArgs false

/-- A row that a call has made, or nothing. -/
abbrev FreshRow (N : Nat) (w : World) (A : Option Addr) (n : Nat) (xs : List Int) : Prop := n = 0 ∨ ∃ g, A = some ⟨g, 0, none⟩ ∧ N ≤ g ∧ OwnRow w g n xs

theorem clone_any (A : Option Addr) (n c : Nat) (xs : List Int) (w : World) (hI : IntsAt w A n xs) :
    Calls Tryz.prog 148 #[.slice A n c] w fun e w' => ∃ A' c', e = .returned (.slice A' n c') ∧ IntsAt w' A' n xs ∧ FreshRow w.heap.size w' A' n xs ∧ Below w.heap.size w w' := by
  rcases Nat.eq_zero_or_pos n with rfl | hn
  · obtain rfl : xs = [] := List.length_eq_zero_iff.1 hI.len
    have heq := fun w => run_eql_slice_nil w A 0 c
    cases A with
    | none =>
      go_enter Tryz.func148, Tryz.ntmps148
      go_wp2
      go_ret
      exact ⟨none, 0, rfl, ints_nil _ _, .inl rfl, Below.refl _ _⟩
    | some ad =>
      obtain ⟨i0, hi, hz0, hz1, hz2⟩ := info_parts infoInt
      have hown := World.ownsRow_lit (base := w.heap.size) (e := 3) (size := 1) w #[] 0 (Nat.le_refl _) (by decide) (by simp)
      go_enter Tryz.func148, Tryz.ntmps148
      go_wp2_with (at_builtin; refine wpList_append_own _ rfl _ _ 38 rfl w.heap.size 3 i0 (.int .i64 0) 1 8 Tryz.underlying38 hi hz0 hz1 hz2 rfl (by decide) _ _ _ rfl hown ad 0 c ([] : List Value) rfl ?c0 ?c1 ?c2 ?c3 ?c4 ?c5 ?_)
      intro v' w1 hown' hgrow _
      obtain ⟨A', c', rfl⟩ := own_slice hown'
      have hB : Below w.heap.size w w1 := (below_alloc w _).grown hgrow (by simp) (fun k e => by cases e; exact Nat.le_refl _)
      clear hown' hgrow
      go_wp2
      go_ret
      exact ⟨A', c', rfl, ints_nil _ _, .inl rfl, hB⟩
  · obtain ⟨b, off, rfl, hb, hc⟩ := hI.cells hn
    refine (clone_in b off n c xs w hn hI.small hI.len hc hb).mono ?_
    rintro e w' ⟨g, cap, rfl, hg, O, hB⟩
    exact ⟨some ⟨g, 0, none⟩, cap, rfl, O.ints hI.small hI.wf, .inr ⟨g, rfl, hg, O⟩, hB⟩

/-- The multiples of the first i elements, the others as they are. -/
def mulTo (n : Nat) (xs : List Int) (s : Int) (i : Nat) : List Int := (List.range n).map fun j => if j < i then s * xs[j]?.getD 0 else xs[j]?.getD 0
def mulL (n : Nat) (s : Int) (xs : List Int) : List Int := (List.range n).map fun j => s * xs[j]?.getD 0
theorem mul_zero {n : Nat} {xs : List Int} (s : Int) (hl : xs.length = n) : mulTo n xs s 0 = xs := by
  apply List.ext_getElem (by simp [mulTo, hl])
  intro j h1 h2
  simp [mulTo, h2]
theorem mul_step (n : Nat) (xs : List Int) (s : Int) (i : Nat) : (mulTo n xs s i).set i (s * xs[i]?.getD 0) = mulTo n xs s (i + 1) := by
  unfold mulTo
  rw [tab_set]
  apply List.map_congr_left
  intro j _
  by_cases e : j = i
  · subst e; simp
  · have : (j < i + 1) ↔ (j < i) := by omega
    simp [e, this]
theorem mul_all (n : Nat) (xs : List Int) (s : Int) : mulTo n xs s n = mulL n s xs := by
  apply List.map_congr_left
  intro j hj
  rw [if_pos (List.mem_range.1 hj)]
theorem mul_at {n i : Nat} {xs : List Int} {s : Int} (hi : i < n) : (mulTo n xs s i)[i]?.getD 0 = xs[i]?.getD 0 := by
  unfold mulTo; rw [tab_get _ hi, if_neg (by omega)]
theorem mulL_mix (n : Nat) (s t : Int) (xs : List Int) : mixL n s xs t (zeros n) = mulL n s xs := by
  apply List.map_congr_left
  intro j hj
  have : (zeros n)[j]?.getD 0 = 0 := by simp [zeros, List.getElem?_replicate]; split <;> rfl
  rw [this, Int.mul_zero, Int.add_zero]
theorem sign_bd {s x B : Int} (hs : s = 1 ∨ s = -1) (hx : -B ≤ x ∧ x ≤ B) : -B ≤ s * x ∧ s * x ≤ B := by
  rcases hs with rfl | rfl <;> omega
theorem mulL_bd {n : Nat} {s : Int} {xs : List Int} (hs : s = 1 ∨ s = -1) (hx : Tame xs) : ∀ z ∈ mulL n s xs, -1048576 ≤ z ∧ z ≤ 1048576 := by
  intro z hz
  obtain ⟨j, _, rfl⟩ := List.mem_map.1 hz
  exact sign_bd hs (hx j)

set_option maxHeartbeats 4000000 in
theorem cond_shifted (A : Option Addr) (n c : Nat) (K : Int) (xs : List Int) (s k : Int) (hs : s = 1 ∨ s = -1) (hK : -1048576 ≤ K ∧ K ≤ 1048576) (hk : -512 ≤ k ∧ k ≤ 512) (hx : Tame xs) (w : World) (hI : IntsAt w A n xs) :
    Calls Tryz.prog 126 #[.agg #[.slice A n c, .int .i64 K], .int .i64 s, .int .i64 k] w fun e w' =>
      ∃ A' c', e = .returned (.agg #[.slice A' n c', .int .i64 (s * K + k)]) ∧ IntsAt w' A' n (mulL n s xs) ∧ FreshRow w.heap.size w' A' n (mulL n s xs) ∧ Below w.heap.size w w' := by
  have hsm := hI.small
  have hB := below_step (below_alloc w (.cells #[.slice A n c, .int .i64 K] 54)) (below_alloc _ (.cells #[.slice none 0 0, .int .i64 0] 54))
  have h1 := hI.step hB
  have B1 := (LBox.new w A n c K).alloc (.cells #[.slice none 0 0, .int .i64 0] 54)
  have B2 := LBox.new (w.alloc (.cells #[.slice A n c, .int .i64 K] 54)) none 0 0 0
  simp only [World.size_alloc] at B2
  have c0 := B1.c0
  have HX := Lib.hid (And.intro hx hs)
  have HL := Lib.hid hI.len
  have hsk := sign_bd hs hK
  have hw1 : IntKind.i64.wrap (s * K) = s * K := IntWalk.i64_in _ (by omega)
  have hw2 : IntKind.i64.wrap (s * K + k) = s * K + k := IntWalk.i64_in _ (by omega)
  have HKK := Lib.hid hsk
  clear hI hx hs hsk
  go_enter Tryz.func126, Tryz.ntmps126
  go_wp2_with (go_at_call 148; refine (clone_any _ _ _ xs _ h1).mono ?_; rintro e w1 ⟨A1, c1, rfl, I1, F1, hb⟩; replace hB := below_step hB hb; replace B1 := B1.step hb; replace B2 := B2.step hb)
  have l1 := B1.lt
  have l2 := B2.lt
  rcases F1 with rfl | ⟨g, rfl, hg, O⟩
  · go_loopw [14] (fun v wr => v = .int .i64 0 ∧ wr = w1) (fun v _ => 0)
    case atStart => exact ⟨rfl, rfl⟩
    case round =>
      obtain ⟨rfl, rfl⟩ := hrel
      have c11 := B1.c1
      have f20 := B2.f 0
      have f21 := B2.f 1
      have d0 := B2.c0
      have d1 := B2.c1
      have c40 := B2.s0 (.slice A1 0 c1)
      have c41 := (B2.store A1 0 c1 (s * K + k)).c1
      have hEnd := below_store2 hB (b := w.heap.size + 1) (by omega) (.slice A1 0 c1) (.int .i64 (s * K + k))
      go_wp2
      refine bodyPost_ret (v := .agg #[.slice A1 0 c1, .int .i64 (s * K + k)]) (by simp [results, Tryz.results126, go_sem, c40, c41]) rfl ?_
      exact ⟨A1, c1, rfl, ints_nil _ _, .inl rfl, hEnd⟩
  · have hg1 : w.heap.size + 1 < g := by simp at hg; omega
    clear hg hb h1 c0
    go_loopw [14] (fun v wr => ∃ i : Nat, i ≤ n ∧ v = .int .i64 i ∧ LBox wr w.heap.size A n c K ∧ LBox wr (w.heap.size + 1) none 0 0 0 ∧ OwnRow wr g n (mulTo n xs s i) ∧ Below w.heap.size w wr) (fun v _ => n - (intOf v).toNat)
    case atStart => exact ⟨0, Nat.zero_le _, rfl, B1, B2, by rw [mul_zero s HL.out]; exact O, hB⟩
    case round =>
      obtain ⟨i, hi, rfl, S1, S2, hrow, hBw⟩ := hrel
      clear O B1 B2 hB I1
      by_cases hlt : i < n
      · have hcr := hrow.cell hlt
        rw [mul_at hlt] at hcr
        have hfr := hrow.free i
        have q1 : (i : Int) < n := by omega
        have f2 := (hrow.set hlt (s * xs[i]?.getD 0))
        rw [mul_step] at f2
        have f1 := S1.other (a := ⟨g, i, none⟩) (show w.heap.size ≠ g by omega) (.int .i64 (s * xs[i]?.getD 0))
        have f3 := S2.other (a := ⟨g, i, none⟩) (show w.heap.size + 1 ≠ g by omega) (.int .i64 (s * xs[i]?.getD 0))
        have f5 := hBw.setCell (p := ⟨g, i, none⟩) (show w.heap.size ≤ g by omega) (.int .i64 (s * xs[i]?.getD 0))
        have hxb := sign_bd HX.out.2 (HX.out.1 i)
        have FF := Lib.hid (And.intro f1 (And.intro f2 (And.intro f3 f5)))
        generalize xs[i]?.getD 0 = x at *
        have hw : IntKind.i64.wrap (x * s) = s * x := by rw [Int.mul_comm]; exact IntWalk.i64_in _ (by omega)
        clear f1 f2 f3 f5 S1 S2 hrow hBw hxb
        go_wp2
        go_roundw
        case rel => exact ⟨i + 1, by omega, by go_num, FF.out.1, FF.out.2.2.1, FF.out.2.1, FF.out.2.2.2⟩
        case measure => simp [intOf]; omega
      · obtain rfl : i = n := by omega
        rw [mul_all] at hrow
        have hge : ¬ ((i : Int) < i) := by omega
        have c11 := S1.c1
        have f20 := S2.f 0
        have f21 := S2.f 1
        have d0 := S2.c0
        have d1 := S2.c1
        have c40 := S2.s0 (.slice (some ⟨g, 0, none⟩) i c1)
        have c41 := (S2.store (some ⟨g, 0, none⟩) i c1 (s * K + k)).c1
        have hEnd := below_store2 hBw (b := w.heap.size + 1) (by omega) (.slice (some ⟨g, 0, none⟩) i c1) (.int .i64 (s * K + k))
        have O := hrow.store2 (b := w.heap.size + 1) (by omega) (.slice (some ⟨g, 0, none⟩) i c1) (.int .i64 (s * K + k))
        have HW := Lib.hid (mulL_bd (n := i) HX.out.2 HX.out.1)
        clear hrow hBw S1
        go_wp2
        refine bodyPost_ret (v := .agg #[.slice (some ⟨g, 0, none⟩) i c1, .int .i64 (s * K + k)]) (by simp [results, Tryz.results126, go_sem, c40, c41]) rfl ?_
        exact ⟨some ⟨g, 0, none⟩, ⟨c1, rfl⟩, O.ints hsm (fun x hx => by have := HW.out x hx; omega), .inr ⟨g, rfl, by omega, O⟩, hEnd⟩

/-- Does a condition fit? -/
theorem wide_fits (q M : Int) (A : Option Addr) (n c : Nat) (K : Int) (xs : List Int) (hM : M ≤ 512) (w : World) (hI : IntsAt w A n xs) :
    Calls Tryz.prog 101 #[condV q M A n c K] w fun e w' => e = .returned (.bool (validB xs K)) ∧ Below w.heap.size w w' := by
  have hB := below_alloc w (.cells #[.int .i64 q, .int .i64 M, .slice A n c, .int .i64 K] 56)
  have h1 := hI.step hB
  have B1 := CBox.new w q M A n c K
  have c1 := B1.c1
  have c2 := B1.c2
  have c3 := B1.c3
  clear hI
  obtain ⟨v, hv⟩ : ∃ v, validB xs K = v := ⟨_, rfl⟩
  have HV := Lib.hid hv
  rw [hv]
  clear hv
  go_enter Tryz.func101, Tryz.ntmps101
  go_wp2_with (go_at_call 91; refine (lin_valid _ _ _ _ xs _ h1).mono ?_; rintro e w1 ⟨rfl, hb⟩; rw [HV.out]; replace hB := below_step hB hb)
  go_ret
  exact ⟨ret_bool (by first | rfl | simp), hB⟩
end Go.Proofs.YtkgnlloioaobiaaGreat

/-
  Lists of conditions: as they are read, and as a call owns them.
-/
namespace Go.Proofs.YtkgnlloioaobiaaGreat
open Go.RowKit
set_option linter.unusedVariables false
set_option maxRecDepth 100000
set_option linter.unusedSimpArgs false

/-- What a condition says. -/
structure CD where
  q : Int
  M : Int
  xs : List Int
  K : Int
/-- A condition as it lies in memory. -/
structure CEl where
  q : Int
  M : Int
  A : Option Addr
  n : Nat
  c : Nat
  K : Int
  xs : List Int
def CEl.d (e : CEl) : CD := ⟨e.q, e.M, e.xs, e.K⟩
def CEl.cells (e : CEl) : List Value := [.int .i64 e.q, .int .i64 e.M, .slice e.A e.n e.c, .int .i64 e.K]
def ccells : List CEl → List Value
  | [] => []
  | e :: l => e.cells ++ ccells l
theorem ccells_app (l m : List CEl) : ccells (l ++ m) = ccells l ++ ccells m := by
  induction l with
  | nil => rfl
  | cons e l ih => simp [ccells, ih]
theorem ccells_len (l : List CEl) : (ccells l).length = l.length * 4 := by
  induction l with
  | nil => rfl
  | cons e l ih => simp [ccells, CEl.cells, ih]; omega
theorem ccells_at : ∀ (l : List CEl) (j : Nat) (e : CEl), l[j]? = some e → (ccells l)[j * 4]? = some (.int .i64 e.q) ∧ (ccells l)[j * 4 + 1]? = some (.int .i64 e.M) ∧ (ccells l)[j * 4 + 2]? = some (.slice e.A e.n e.c) ∧ (ccells l)[j * 4 + 3]? = some (.int .i64 e.K)
  | [], j, e, h => by simp at h
  | x :: l, 0, e, h => by simp at h; subst h; exact ⟨rfl, rfl, rfl, rfl⟩
  | x :: l, j + 1, e, h => by
    have := ccells_at l j e (by simpa using h)
    rw [show (j + 1) * 4 = j * 4 + 1 + 1 + 1 + 1 by omega]
    exact this

/-- Four cells hold a condition. -/
def CellsOf (w : World) (b p : Nat) (e : CEl) : Prop := w.cell? ⟨b, p, none⟩ = some (.int .i64 e.q) ∧ w.cell? ⟨b, p + 1, none⟩ = some (.int .i64 e.M) ∧ w.cell? ⟨b, p + 2, none⟩ = some (.slice e.A e.n e.c) ∧ w.cell? ⟨b, p + 3, none⟩ = some (.int .i64 e.K)
theorem CellsOf.step {w w' : World} {b p : Nat} {e : CEl} {B : Nat} (h : CellsOf w b p e) (hb : Below B w w') (hB : b < B) : CellsOf w' b p e :=
  ⟨(hb.cell (p := ⟨b, p, none⟩) hB).trans h.1, (hb.cell (p := ⟨b, p + 1, none⟩) hB).trans h.2.1, (hb.cell (p := ⟨b, p + 2, none⟩) hB).trans h.2.2.1, (hb.cell (p := ⟨b, p + 3, none⟩) hB).trans h.2.2.2⟩

/-- A list of conditions that can be read: the slice A of m elements reads as els. -/
structure CondsAt (w : World) (A : Option Addr) (m : Nat) (els : List CEl) : Prop where
  len : els.length = m
  small : m ≤ 17592186044416
  cells : 0 < m → ∃ b off, A = some ⟨b, off, none⟩ ∧ b < w.heap.size ∧ ∀ j e, els[j]? = some e → CellsOf w b (off + j * 4) e
  ints : ∀ e ∈ els, IntsAt w e.A e.n e.xs
theorem CondsAt.step {w w' : World} {A : Option Addr} {m : Nat} {els : List CEl} (h : CondsAt w A m els) (hb : Below w.heap.size w w') : CondsAt w' A m els :=
  ⟨h.len, h.small, fun hm => let ⟨b, off, hA, hlt, hc⟩ := h.cells hm; ⟨b, off, hA, Nat.lt_of_lt_of_le hlt hb.size, fun j e he => (hc j e he).step hb hlt⟩, fun e he => (h.ints e he).step hb⟩
theorem conds_nil (w : World) (A : Option Addr) : CondsAt w A 0 [] := ⟨rfl, by omega, fun h => absurd h (by omega), fun e h => by cases h⟩
theorem CondsAt.at {w : World} {A : Option Addr} {m : Nat} {els : List CEl} (h : CondsAt w A m els) {j : Nat} (hj : j < m) : ∃ b off e, A = some ⟨b, off, none⟩ ∧ b < w.heap.size ∧ els[j]? = some e ∧ e ∈ els ∧ CellsOf w b (off + j * 4) e ∧ IntsAt w e.A e.n e.xs := by
  obtain ⟨b, off, hA, hlt, hc⟩ := h.cells (by omega)
  have hj' : j < els.length := by rw [h.len]; exact hj
  refine ⟨b, off, els[j], hA, hlt, List.getElem?_eq_getElem hj', List.getElem_mem hj', hc j _ (List.getElem?_eq_getElem hj'), h.ints _ (List.getElem_mem hj')⟩

/-- A row of integers at N or beyond. -/
def RowOk (N : Nat) (W : World) (A : Option Addr) (n : Nat) : Prop := n = 0 ∨ ∃ g, A = some ⟨g, 0, none⟩ ∧ N ≤ g ∧ ∃ cur : Array Value, W.heap[g]? = some (.cells cur 3 (0, 0)) ∧ n ≤ cur.size
theorem FreshRow.ok {N N' : Nat} {W : World} {A : Option Addr} {n : Nat} {xs : List Int} (h : FreshRow N W A n xs) (hN : N' ≤ N) : RowOk N' W A n :=
  h.imp id fun ⟨g, a, hg, O⟩ => ⟨g, a, Nat.le_trans hN hg, let ⟨_, cur, hc, hn, _⟩ := O; ⟨cur, hc, hn⟩⟩
theorem RowOk.step {N : Nat} {W W' : World} {A : Option Addr} {n : Nat} (h : RowOk N W A n) (hb : Below W.heap.size W W') : RowOk N W' A n :=
  h.imp id fun ⟨g, a, hg, cur, hc, hn⟩ => ⟨g, a, hg, cur, (hb.block g (Array.getElem?_eq_some_iff.1 hc).1).trans hc, hn⟩
theorem RowOk.mono {N N' : Nat} {W : World} {A : Option Addr} {n : Nat} (h : RowOk N W A n) (hN : N' ≤ N) : RowOk N' W A n :=
  h.imp id fun ⟨g, a, hg, r⟩ => ⟨g, a, Nat.le_trans hN hg, r⟩

/-- A list of conditions that the call owns. -/
structure CL2 (N0 N : Nat) (W : World) (u : Value) (els : List CEl) : Prop where
  own : W.ownsRow N 56 4 u els.length (ccells els)
  few : els.length ≤ 100000
  ints : ∀ e ∈ els, IntsAt W e.A e.n e.xs
  rows : ∀ e ∈ els, RowOk N0 W e.A e.n
/-- The same, where the elements' rows lie beyond the same number. -/
abbrev CL (N : Nat) (W : World) (u : Value) (els : List CEl) : Prop := CL2 N N W u els
theorem CL2.nil (N0 N : Nat) (W : World) : CL2 N0 N W (.slice none 0 0) [] := ⟨⟨rfl, .inl ⟨rfl, rfl⟩⟩, by simp, (fun e h => nomatch h), (fun e h => nomatch h)⟩
theorem CL.nil (N : Nat) (W : World) : CL N W (.slice none 0 0) [] := CL2.nil N N W
theorem CL2.step {N0 N : Nat} {W W' : World} {u : Value} {els : List CEl} (h : CL2 N0 N W u els) (hb : Below W.heap.size W W') : CL2 N0 N W' u els := by
  refine ⟨⟨h.own.1, ?_⟩, h.few, fun e he => (h.ints e he).step hb, fun e he => (h.rows e he).step hb⟩
  rcases h.own.2 with h0 | ⟨g, cap, cur, hv, hg, hc, rest⟩
  · exact .inl h0
  · exact .inr ⟨g, cap, cur, hv, hg, (hb.block g (Array.getElem?_eq_some_iff.1 hc).1).trans hc, rest⟩
theorem CL2.slice {N0 N : Nat} {W : World} {u : Value} {els : List CEl} (h : CL2 N0 N W u els) : ∃ A c, u = .slice A els.length c := by
  rcases h.own.2 with ⟨rfl, h0⟩ | ⟨g, cap, cur, rfl, _⟩
  · rw [h0]; exact ⟨none, 0, rfl⟩
  · exact ⟨_, _, rfl⟩
theorem CL2.conds {N0 N : Nat} {W : World} {A : Option Addr} {m c : Nat} {els : List CEl} (h : CL2 N0 N W (.slice A m c) els) : m = els.length ∧ CondsAt W A els.length els := by
  have hm : m = els.length := by
    obtain ⟨A', c', e⟩ := h.slice
    cases e; rfl
  subst hm
  have hf := h.few
  refine ⟨rfl, rfl, by omega, ?_, h.ints⟩
  · intro h0
    rcases h.own.2 with ⟨_, h1⟩ | ⟨g, cap, cur, hv, hb, hc, h1, h2, h3, h4⟩
    · omega
    · cases hv
      refine ⟨g, 0, rfl, (Array.getElem?_eq_some_iff.1 hc).1, fun j e he => ?_⟩
      obtain ⟨a0, a1, a2, a3⟩ := ccells_at els j e he
      have hj := (List.getElem?_eq_some_iff.1 he).1
      rw [Nat.zero_add]
      refine ⟨?_, ?_, ?_, ?_⟩
      · have := World.ownsRow.cellAt h.own (j * 4) (by omega); rw [this]; exact a0
      · have := World.ownsRow.cellAt h.own (j * 4 + 1) (by omega); rw [this]; exact a1
      · have := World.ownsRow.cellAt h.own (j * 4 + 2) (by omega); rw [this]; exact a2
      · have := World.ownsRow.cellAt h.own (j * 4 + 3) (by omega); rw [this]; exact a3

theorem infoCond : (Tryz.prog.info? 56).map (fun i => (i.zero, i.size, i.bytes)) = some (some (.agg #[.int .i64 0, .int .i64 0, .slice none 0 0, .int .i64 0]), 4, 48) := by kernel_rfl

theorem RowOk.grown {N : Nat} {W W' : World} {A : Option Addr} {n : Nat} {row : Option Nat} (h : RowOk N W A n) (hg : W.grownBy W' row) (hr : ∀ r, row = some r → ∃ cur fr, W.heap[r]? = some (.cells cur 56 fr)) : RowOk N W' A n := by
  refine h.imp id ?_
  rintro ⟨b, a, hb, cur, hc, hn⟩
  refine ⟨b, a, hb, cur, (hg.block b (Array.getElem?_eq_some_iff.1 hc).1 fun e => ?_).trans hc, hn⟩
  obtain ⟨cur', fr, hr'⟩ := hr b e.symm
  rw [hc] at hr'
  simp at hr'
theorem IntsAt.grown {N : Nat} {W W' : World} {A : Option Addr} {n : Nat} {xs : List Int} {row : Option Nat} (h : IntsAt W A n xs) (ho : RowOk N W A n) (hg : W.grownBy W' row) (hr : ∀ r, row = some r → ∃ cur fr, W.heap[r]? = some (.cells cur 56 fr)) : IntsAt W' A n xs := by
  refine ⟨h.len, h.small, h.wf, fun hn => ?_⟩
  obtain ⟨b, off, hA, hlt, hc⟩ := h.cells hn
  refine ⟨b, off, hA, Nat.lt_of_lt_of_le hlt hg.size, fun j hj => ?_⟩
  have hne : row ≠ some b := fun e => by
    obtain ⟨cur', fr, hr'⟩ := hr b e
    rcases ho with h0 | ⟨b', hA', _, cur, h1, _⟩
    · omega
    · rw [hA] at hA'
      cases hA'
      rw [h1] at hr'; simp at hr'
  rw [← hc j hj]
  exact World.cell?_of_block (hg.block b hlt fun e => hne e.symm)

/-- Some conditions are appended. -/
theorem append_conds {N0 N : Nat} {w : World} {u : Value} {els : List CEl} (h : CL2 N0 N w u els) (g : Nat) (new : List CEl) (hg : w.heap[g]? = some (.cells (ccells new).toArray 56 (0, 0))) (hi : ∀ e ∈ new, IntsAt w e.A e.n e.xs) (hro : ∀ e ∈ new, RowOk N0 w e.A e.n) (hm : els.length + new.length ≤ 100000) (h0 : 0 < new.length) (hN : N ≤ w.heap.size) (ty : TypeId) (t : TypeId) (ht : Tryz.prog.underlying t = some (.slice 56)) :
    ∃ g' cap w', (Builtin.append_ #[t, t] ty #[u, .slice (some ⟨g, 0, none⟩) new.length new.length]).run Tryz.prog w = .ok (.slice (some ⟨g', 0, none⟩) (els.length + new.length) cap) w' ∧ CL2 N0 N w' (.slice (some ⟨g', 0, none⟩) (els.length + new.length) cap) (els ++ new) ∧ w.grownBy w' u.ownBlock ∧ Below N w w' := by
  obtain ⟨i0, hi0, hz, hz1, hz2⟩ := info_parts infoCond
  obtain ⟨g', cap, w', hr, hown, hgr, _, _⟩ := run_append_lies (P := Tryz.prog) w t ty N 56 i0 (.agg #[.int .i64 0, .int .i64 0, .slice none 0 0, .int .i64 0]) 4 48 ht hi0 hz hz1 hz2 rfl (by decide) u els.length (ccells els) h.own ⟨g, 0, none⟩ new.length new.length (ccells new) (ccells_len new)
    (fun j v hv => World.news_of_block hg j v (by simpa using hv))
    (fun v hv => by
      clear hg hi hro hm h0
      induction new with
      | nil => simp [ccells] at hv
      | cons e l ih =>
        simp only [ccells, CEl.cells, List.cons_append, List.nil_append, List.mem_cons] at hv
        rcases hv with rfl | rfl | rfl | rfl | hv
        · rfl
        · rfl
        · rfl
        · rfl
        · exact ih hv) h0 (by unfold maxLen; omega) (by omega) hN _ rfl
  have hb : Below N w w' := (Below.refl N w).grown hgr hN fun k e => (h.own.lt k e).1
  have hrow : ∀ r, u.ownBlock = some r → ∃ cur fr, w.heap[r]? = some (.cells cur 56 fr) := fun r e => by
    rcases h.own.2 with ⟨hv, _⟩ | ⟨gl, cap', cur', hv, hgN, hgl, _⟩
    · rw [hv] at e; cases e
    · rw [hv] at e
      simp only [Value.ownBlock, Option.some.injEq] at e
      subst e
      exact ⟨cur', _, hgl⟩
  refine ⟨g', cap, w', hr, ⟨by rw [List.length_append, ccells_app]; exact hown, by rw [List.length_append]; exact hm, fun e he => ?_, fun e he => ?_⟩, hgr, hb⟩
  · rcases List.mem_append.1 he with he | he
    · exact (h.ints e he).grown (h.rows e he) hgr hrow
    · exact (hi e he).grown (hro e he) hgr hrow
  · rcases List.mem_append.1 he with he | he
    · exact (h.rows e he).grown hgr hrow
    · exact (hro e he).grown hgr hrow

section
variable {ops : Array Oper} {o : Oper} {a : Act} {w : World} {Q : Exit → Act → World → Prop}
theorem wpList_append_cond {rest : List Oper} (hgd : o.guard = none) (s x : Operand) (t : TypeId) (ho : o.op = .call { callee := .builtin .append, args := #[s, x], argTypes := #[t, t] }) (ht : Tryz.prog.underlying t = some (.slice 56))
    {N0 N : Nat} {u : Value} {els : List CEl} (hs : a.eval s = u) (hL : CL2 N0 N w u els) (g : Nat) (e : CEl) (hx : a.eval x = .slice (some ⟨g, 0, none⟩) 1 1) (hg : w.heap[g]? = some (.cells e.cells.toArray 56 (0, 0))) (hi : IntsAt w e.A e.n e.xs) (hro : RowOk N0 w e.A e.n) (hm : els.length + 1 ≤ 100000) (hN : N ≤ w.heap.size)
    (h : ∀ g' cap w', CL2 N0 N w' (.slice (some ⟨g', 0, none⟩) (els.length + 1) cap) (els ++ [e]) → w.grownBy w' u.ownBlock → Below N w w' → wpList Tryz.prog ops Q rest (a.put o.dst (.slice (some ⟨g', 0, none⟩) (els.length + 1) cap)) w') : wpList Tryz.prog ops Q (o :: rest) a w :=
  wpList_plain hgd fun _ hK => by
    obtain ⟨g', cap, w', h1, h2, h3, h4⟩ := append_conds hL g [e] (by simpa [ccells] using hg) (fun e' he => by rw [List.mem_singleton.1 he]; exact hi) (fun e' he => by rw [List.mem_singleton.1 he]; exact hro) hm (by simp) hN o.type t ht
    unfold Oper.wp
    rw [exec_append ho hs hx h1, Oper.upon_value]
    exact hK _ _ (h g' cap w' h2 h3 h4)
theorem step_append_cond {K : Act → World → Prop} {E : Prop} (hgd : o.guard = none) (s x : Operand) (t : TypeId) (ho : o.op = .call { callee := .builtin .append, args := #[s, x], argTypes := #[t, t] }) (ht : Tryz.prog.underlying t = some (.slice 56))
    {N0 N : Nat} {u : Value} {els : List CEl} (hs : a.eval s = u) (hL : CL2 N0 N w u els) (g : Nat) (e : CEl) (hx : a.eval x = .slice (some ⟨g, 0, none⟩) 1 1) (hg : w.heap[g]? = some (.cells e.cells.toArray 56 (0, 0))) (hi : IntsAt w e.A e.n e.xs) (hro : RowOk N0 w e.A e.n) (hm : els.length + 1 ≤ 100000) (hN : N ≤ w.heap.size)
    (h : ∀ g' cap w', CL2 N0 N w' (.slice (some ⟨g', 0, none⟩) (els.length + 1) cap) (els ++ [e]) → w.grownBy w' u.ownBlock → Below N w w' → K (a.put o.dst (.slice (some ⟨g', 0, none⟩) (els.length + 1) cap)) w') : if Region.wanted o (yielded ops a.tmps) = true then Oper.wp Tryz.prog o a w K Q else E := by
  have hw : Region.wanted o (yielded ops a.tmps) = true := by simp [Region.wanted, hgd]
  rw [if_pos hw]
  obtain ⟨g', cap, w', h1, h2, h3, h4⟩ := append_conds hL g [e] (by simpa [ccells] using hg) (fun e' he => by rw [List.mem_singleton.1 he]; exact hi) (fun e' he => by rw [List.mem_singleton.1 he]; exact hro) hm (by simp) hN o.type t ht
  unfold Oper.wp
  rw [exec_append ho hs hx h1, Oper.upon_value]
  exact h g' cap w' h2 h3 h4
end
end Go.Proofs.YtkgnlloioaobiaaGreat

/-
  The key of a piece, as mathematics: unlike pieces have unlike keys.
-/
namespace Go.Proofs.YtkgnlloioaobiaaGreat
open Go.RowKit
set_option linter.unusedVariables false
set_option linter.unusedSimpArgs false

/-- A number without sign. -/
def zz (n : Int) : Nat := if 0 ≤ n then (2 * n).toNat else (-2 * n - 1).toNat
theorem zz_inj {a b : Int} (h : zz a = zz b) : a = b := by
  unfold zz at h
  split at h <;> split at h <;> omega
/-- The bytes of a number. -/
def numB (u : Nat) : List Int := if h : u < 128 then [(u : Int)] else (128 + u % 128 : Nat) :: numB (u / 128)
termination_by u
decreasing_by omega
theorem num_small {u : Nat} (h : u < 128) : numB u = [(u : Int)] := by rw [numB, dif_pos h]
theorem num_great {u : Nat} (h : ¬ u < 128) : numB u = ((128 + u % 128 : Nat) : Int) :: numB (u / 128) := by rw [numB, dif_neg h]
theorem num_inj : ∀ (u v : Nat) (X Y : List Int), numB u ++ X = numB v ++ Y → u = v ∧ X = Y := by
  intro u
  induction u using Nat.strongRecOn with
  | ind u ih =>
    intro v X Y h
    by_cases hu : u < 128
    · by_cases hv : v < 128
      · rw [num_small hu, num_small hv] at h
        simp only [List.cons_append, List.nil_append, List.cons.injEq] at h
        exact ⟨by omega, h.2⟩
      · rw [num_small hu, num_great hv] at h
        simp only [List.cons_append, List.nil_append, List.cons.injEq] at h
        omega
    · by_cases hv : v < 128
      · rw [num_great hu, num_small hv] at h
        simp only [List.cons_append, List.nil_append, List.cons.injEq] at h
        omega
      · rw [num_great hu, num_great hv] at h
        simp only [List.cons_append, List.cons.injEq] at h
        obtain ⟨h1, h2⟩ := ih (u / 128) (by omega) (v / 128) X Y h.2
        exact ⟨by omega, h2⟩
theorem num_ne (u : Nat) : numB u ≠ [] := by
  by_cases hu : u < 128
  · rw [num_small hu]; simp
  · rw [num_great hu]; simp
def numsB (xs : List Int) : List Int := xs.flatMap fun x => numB (zz x)
theorem nums_inj : ∀ (xs ys X Y : List Int), xs.length = ys.length → numsB xs ++ X = numsB ys ++ Y → xs = ys ∧ X = Y
  | [], [], X, Y, _, h => ⟨rfl, h⟩
  | [], _ :: _, _, _, hl, _ => by simp at hl
  | _ :: _, [], _, _, hl, _ => by simp at hl
  | x :: xs, y :: ys, X, Y, hl, h => by
    simp only [numsB, List.flatMap_cons, List.append_assoc] at h
    obtain ⟨h1, h2⟩ := num_inj _ _ _ _ h
    obtain ⟨h3, h4⟩ := nums_inj xs ys X Y (by simpa using hl) h2
    exact ⟨by rw [zz_inj h1, h3], h4⟩
/-- The bytes of a condition. -/
def keyC (d : CD) : List Int := d.q :: (numB (zz d.M) ++ (numsB d.xs ++ numB (zz d.K)))
def keyB (l : List CD) : List Int := l.flatMap keyC
theorem keyC_inj {a b : CD} {X Y : List Int} (hl : a.xs.length = b.xs.length) (h : keyC a ++ X = keyC b ++ Y) : a = b ∧ X = Y := by
  obtain ⟨q, M, xs, K⟩ := a
  obtain ⟨q', M', ys, L⟩ := b
  simp only [keyC, List.cons_append, List.cons.injEq, List.append_assoc] at h
  obtain ⟨rfl, h⟩ := h
  obtain ⟨h1, h⟩ := num_inj _ _ _ _ h
  obtain ⟨h2, h⟩ := nums_inj _ _ _ _ hl h
  obtain ⟨h3, h⟩ := num_inj _ _ _ _ h
  have e1 : M = M' := zz_inj h1
  have e3 : K = L := zz_inj h3
  have e2 : xs = ys := h2
  exact ⟨by rw [e1, e2, e3], h⟩
theorem key_inj2 {n : Nat} : ∀ (l l' : List CD), (∀ d ∈ l, d.xs.length = n) → (∀ d ∈ l', d.xs.length = n) → keyB l = keyB l' → l = l'
  | [], [], _, _, _ => rfl
  | [], d :: l, _, _, h => by simp [keyB, keyC] at h
  | d :: l, [], _, _, h => by simp [keyB, keyC] at h
  | a :: l, b :: l', h1, h2, h => by
    simp only [keyB, List.flatMap_cons] at h
    obtain ⟨h3, h4⟩ := keyC_inj (by rw [h1 a (List.mem_cons_self ..), h2 b (List.mem_cons_self ..)]) h
    rw [h3, key_inj2 l l' (fun d hd => h1 d (List.mem_cons_of_mem _ hd)) (fun d hd => h2 d (List.mem_cons_of_mem _ hd)) h4]
theorem num_byte : ∀ u : Nat, ∀ x ∈ numB u, 0 ≤ x ∧ x ≤ 255 := by
  intro u
  induction u using Nat.strongRecOn with
  | ind u ih =>
    intro x hx
    by_cases hu : u < 128
    · rw [num_small hu, List.mem_singleton] at hx
      omega
    · rw [num_great hu, List.mem_cons] at hx
      rcases hx with rfl | hx
      · omega
      · exact ih (u / 128) (by omega) x hx
theorem num_len : ∀ (k u : Nat), u < 128 ^ k → 0 < k → (numB u).length ≤ k
  | 0, u, h, h0 => by omega
  | k + 1, u, h, _ => by
    by_cases hu : u < 128
    · rw [num_small hu]; simp
    · have hk : 0 < k := by
        rcases Nat.eq_zero_or_pos k with rfl | hk
        · simp at h; omega
        · exact hk
      rw [num_great hu, List.length_cons]
      have := num_len k (u / 128) (by rw [Nat.pow_succ] at h; omega) hk
      omega
/-- The bits that a byte of a number has. -/
theorem or_bits : ∀ x : Fin 256, (BitVec.ofInt 8 (x.val : Int) ||| BitVec.ofInt 8 128).toNat = 128 + x.val % 128 := by decide +kernel
end Go.Proofs.YtkgnlloioaobiaaGreat

/-
  A part of a row of conditions that a call owns: reading it, parts of it, and what a write to a part leaves.
-/
namespace Go.Proofs.YtkgnlloioaobiaaGreat
open Go.RowKit
set_option linter.unusedVariables false
set_option maxRecDepth 100000
set_option linter.unusedSimpArgs false

/-- A part of a row of conditions: m of them, from cell o of block g on. -/
structure CV (N0 N : Nat) (W : World) (A : Option Addr) (m : Nat) (els : List CEl) : Prop where
  len : els.length = m
  few : m ≤ 100000
  ints : ∀ e ∈ els, IntsAt W e.A e.n e.xs
  rows : ∀ e ∈ els, RowOk N0 W e.A e.n
  row : 0 < m → ∃ g o cur, A = some ⟨g, o, none⟩ ∧ N ≤ g ∧ W.heap[g]? = some (.cells cur 56 (0, 0)) ∧ o + m * 4 ≤ cur.size ∧ ∀ j, j < m * 4 → cur[o + j]? = (ccells els)[j]?

theorem cells_drop (l : List CEl) (k j : Nat) : (ccells (l.drop k))[j]? = (ccells l)[k * 4 + j]? := by
  induction l generalizing k with
  | nil => simp [ccells]
  | cons e l ih =>
    cases k with
    | zero => simp
    | succ k =>
      rw [List.drop_succ_cons, ih, show (k + 1) * 4 + j = 4 + (k * 4 + j) by omega]
      show _ = (e.cells ++ ccells l)[4 + (k * 4 + j)]?
      rw [List.getElem?_append_right (by simp [CEl.cells])]
      congr 1
      simp [CEl.cells]
theorem cells_take (l : List CEl) (k j : Nat) (hj : j < k * 4) : (ccells (l.take k))[j]? = (ccells l)[j]? := by
  have h : ccells l = ccells (l.take k) ++ ccells (l.drop k) := by rw [← ccells_app, List.take_append_drop]
  rw [h]
  by_cases hl : j < (ccells (l.take k)).length
  · rw [List.getElem?_append_left hl]
  · have hl' : l.length * 4 ≤ j := by
      rw [ccells_len, List.length_take] at hl
      rcases Nat.le_total k l.length with h1 | h1
      · rw [Nat.min_eq_left h1] at hl; omega
      · rw [Nat.min_eq_right h1] at hl; omega
    rw [List.getElem?_eq_none (by omega), ← h, List.getElem?_eq_none (by rw [ccells_len]; omega)]

section
variable {N0 N : Nat} {W W' : World} {A : Option Addr} {m : Nat} {els : List CEl}
theorem CV.conds (h : CV N0 N W A m els) : CondsAt W A m els := by
  refine ⟨h.len, by have := h.few; omega, fun h0 => ?_, h.ints⟩
  obtain ⟨g, o, cur, hA, hg, hc, hsz, hat⟩ := h.row h0
  refine ⟨g, o, hA, (Array.getElem?_eq_some_iff.1 hc).1, fun j e he => ?_⟩
  have hj := (List.getElem?_eq_some_iff.1 he).1
  have hl := h.len
  obtain ⟨a0, a1, a2, a3⟩ := ccells_at els j e he
  have key : ∀ k v, k < 4 → (ccells els)[j * 4 + k]? = some v → W.cell? ⟨g, o + j * 4 + k, none⟩ = some v := fun k v hk hv => by
    have := hat (j * 4 + k) (by omega)
    rw [hv] at this
    simp only [World.cell?, hc]
    simpa [Nat.add_assoc] using this
  exact ⟨key 0 _ (by omega) a0, key 1 _ (by omega) a1, key 2 _ (by omega) a2, key 3 _ (by omega) a3⟩
theorem CV.of_cl {c : Nat} (h : CL2 N0 N W (.slice A m c) els) : CV N0 N W A m els := by
  obtain ⟨hm, _⟩ := h.conds
  subst hm
  refine ⟨rfl, h.few, h.ints, h.rows, fun h0 => ?_⟩
  rcases h.own.2 with ⟨_, h1⟩ | ⟨g, cap, cur, hv, hb, hc, h1, h2, h3, h4⟩
  · omega
  · cases hv
    refine ⟨g, 0, cur, rfl, hb, hc, by rw [h3]; omega, fun j hj => ?_⟩
    rw [← h4, List.getElem?_take, if_pos hj, Nat.zero_add, Array.getElem?_toList]
theorem CV.nil (N0 N : Nat) (W : World) (A : Option Addr) : CV N0 N W A 0 [] := ⟨rfl, by omega, (fun e h => nomatch h), (fun e h => nomatch h), fun h => absurd h (by omega)⟩
theorem CV.step (h : CV N0 N W A m els) (hb : Below W.heap.size W W') : CV N0 N W' A m els :=
  ⟨h.len, h.few, fun e he => (h.ints e he).step hb, fun e he => (h.rows e he).step hb, fun h0 => let ⟨g, o, cur, hA, hg, hc, r⟩ := h.row h0; ⟨g, o, cur, hA, hg, (hb.block g (Array.getElem?_eq_some_iff.1 hc).1).trans hc, r⟩⟩
theorem CV.mono {N0' N' : Nat} (h : CV N0 N W A m els) (h0 : N0' ≤ N0) (hN : N' ≤ N) : CV N0' N' W A m els :=
  ⟨h.len, h.few, h.ints, fun e he => (h.rows e he).mono h0, fun h0 => let ⟨g, o, cur, hA, hg, r⟩ := h.row h0; ⟨g, o, cur, hA, Nat.le_trans hN hg, r⟩⟩
/-- A part of a part. -/
theorem CV.sub (h : CV N0 N W A m els) {i k : Nat} (hk : i + k ≤ m) {A' : Option Addr} (hA : 0 < k → ∀ g o, A = some ⟨g, o, none⟩ → A' = some ⟨g, o + i * 4, none⟩) : CV N0 N W A' k ((els.drop i).take k) := by
  have hl := h.len
  refine ⟨by rw [List.length_take, List.length_drop]; omega, by have := h.few; omega, fun e he => h.ints e (List.mem_of_mem_drop (List.mem_of_mem_take he)), fun e he => h.rows e (List.mem_of_mem_drop (List.mem_of_mem_take he)), fun h0 => ?_⟩
  obtain ⟨g, o, cur, hA', hg, hc, hsz, hat⟩ := h.row (by omega)
  refine ⟨g, o + i * 4, cur, hA h0 g o hA', hg, hc, by omega, fun j hj => ?_⟩
  rw [cells_take _ _ _ hj, cells_drop, Nat.add_assoc]
  exact hat (i * 4 + j) (by omega)

/-- A slice as a program has it: nil has no room, and no address lies within a string. -/
def Sane (A : Option Addr) (c : Nat) : Prop := (A = none → c = 0) ∧ ∀ ad, A = some ad → ad.spot = none
/-- Only the cells of a part are written. -/
structure Touch (A : Option Addr) (m : Nat) (W W' : World) : Prop where
  os : W'.os = W.os
  tape : W'.tape = W.tape
  output : W'.output = W.output
  size : W.heap.size ≤ W'.heap.size
  block : ∀ k, k < W.heap.size → (∀ o, 0 < m → A = some ⟨k, o, none⟩ → False) → W'.heap[k]? = W.heap[k]?
  part : ∀ g o cur fz, A = some ⟨g, o, none⟩ → W.heap[g]? = some (.cells cur 56 fz) → ∃ cur', W'.heap[g]? = some (.cells cur' 56 fz) ∧ cur'.size = cur.size ∧ ∀ j, (j < o ∨ o + m * 4 ≤ j) → cur'[j]? = cur[j]?
theorem Touch.of_below (hb : Below W.heap.size W W') : Touch A m W W' :=
  ⟨hb.os, hb.tape, hb.output, hb.size, fun k hk _ => hb.block k hk, fun g o cur fz _ hc => ⟨cur, (hb.block g (Array.getElem?_eq_some_iff.1 hc).1).trans hc, rfl, fun _ _ => rfl⟩⟩
theorem Touch.trans {W'' : World} (h : Touch A m W W') (h' : Touch A m W' W'') : Touch A m W W'' :=
  ⟨h'.os.trans h.os, h'.tape.trans h.tape, h'.output.trans h.output, Nat.le_trans h.size h'.size, fun k hk hn => (h'.block k (Nat.lt_of_lt_of_le hk h.size) hn).trans (h.block k hk hn), fun g o cur fz hA hc => by
    obtain ⟨c1, h1, s1, e1⟩ := h.part g o cur fz hA hc
    obtain ⟨c2, h2, s2, e2⟩ := h'.part g o c1 fz hA h1
    exact ⟨c2, h2, s2.trans s1, fun j hj => (e2 j hj).trans (e1 j hj)⟩⟩
theorem Touch.below (h : Touch A m W W') (hA : 0 < m → ∃ g o, A = some ⟨g, o, none⟩ ∧ N ≤ g) (hN : N ≤ W.heap.size) : Below N W W' :=
  ⟨h.os, h.tape, h.output, h.size, fun k hk => h.block k (by omega) fun o h0 e => by
    obtain ⟨g, o', hg, hN'⟩ := hA h0
    rw [hg] at e
    cases e
    omega⟩
theorem CV.addr (h : CV N0 N W A m els) (h0 : 0 < m) : ∃ g o, A = some ⟨g, o, none⟩ ∧ N ≤ g := let ⟨g, o, cur, hA, hg, _⟩ := h.row h0; ⟨g, o, hA, hg⟩
/-- Rows of integers stay where a part of a row of conditions is written. -/
theorem RowOk.touch {n : Nat} {B : Option Addr} (h : RowOk N0 W B n) (ht : Touch A m W W') (hA : 0 < m → ∀ g o, A = some ⟨g, o, none⟩ → ∃ cur fz, W.heap[g]? = some (.cells cur 56 fz)) : RowOk N0 W' B n := by
  refine h.imp id ?_
  rintro ⟨b, a, hb, cur, hc, hn⟩
  refine ⟨b, a, hb, cur, (ht.block b (Array.getElem?_eq_some_iff.1 hc).1 fun o h0 e => ?_).trans hc, hn⟩
  obtain ⟨cur', fz, hr⟩ := hA h0 _ _ e
  rw [hc] at hr
  simp at hr
theorem IntsAt.touch {n : Nat} {B : Option Addr} {xs : List Int} (h : IntsAt W B n xs) (ho : RowOk N0 W B n) (ht : Touch A m W W') (hA : 0 < m → ∀ g o, A = some ⟨g, o, none⟩ → ∃ cur fz, W.heap[g]? = some (.cells cur 56 fz)) : IntsAt W' B n xs := by
  refine ⟨h.len, h.small, h.wf, fun hn => ?_⟩
  obtain ⟨b, off, hB, hlt, hc⟩ := h.cells hn
  refine ⟨b, off, hB, Nat.lt_of_lt_of_le hlt ht.size, fun j hj => ?_⟩
  rw [← hc j hj]
  refine World.cell?_of_block (ht.block b hlt fun o h0 e => ?_)
  obtain ⟨cur', fz, hr⟩ := hA h0 _ _ e
  rcases ho with h1 | ⟨b', hB', _, cur, h1, _⟩
  · omega
  · rw [hB] at hB'
    cases hB'
    rw [h1] at hr
    simp at hr
theorem CV.typed (h : CV N0 N W A m els) : 0 < m → ∀ g o, A = some ⟨g, o, none⟩ → ∃ cur fz, W.heap[g]? = some (.cells cur 56 fz) := fun h0 g o hA => by
  obtain ⟨g', o', cur, hA', _, hc, _⟩ := h.row h0
  rw [hA] at hA'
  cases hA'
  exact ⟨cur, _, hc⟩
/-- Another part stays, if it shares no cell. -/
theorem CV.touch {N0' N' : Nat} {B : Option Addr} {k : Nat} {els' : List CEl} (h : CV N0 N W B k els') (h' : CV N0' N' W A m els) (ht : Touch A m W W') (hd : 0 < m → 0 < k → ∀ g o o', A = some ⟨g, o, none⟩ → B = some ⟨g, o', none⟩ → o' + k * 4 ≤ o ∨ o + m * 4 ≤ o') : CV N0 N W' B k els' := by
  refine ⟨h.len, h.few, fun e he => (h.ints e he).touch (h.rows e he) ht h'.typed, fun e he => (h.rows e he).touch ht h'.typed, fun h0 => ?_⟩
  obtain ⟨g, o, cur, hA, hg, hc, hsz, hat⟩ := h.row h0
  by_cases hm : 0 < m
  · obtain ⟨g2, o2, cur2, hA2, hg2, hc2, hsz2, _⟩ := h'.row hm
    by_cases hgg : g2 = g
    · subst hgg
      rw [hc] at hc2
      simp only [Option.some.injEq, Obj.cells.injEq, and_true] at hc2
      subst hc2
      obtain ⟨cur', h1, s1, e1⟩ := ht.part g2 o2 cur _ hA2 hc
      refine ⟨g2, o, cur', hA, hg, h1, by omega, fun j hj => ?_⟩
      rw [e1 (o + j) (by have := hd hm h0 _ _ _ hA2 hA; omega)]
      exact hat j hj
    · exact ⟨g, o, cur, hA, hg, (ht.block g (Array.getElem?_eq_some_iff.1 hc).1 fun o' _ e => by rw [hA2] at e; cases e; exact hgg rfl).trans hc, hsz, hat⟩
  · exact ⟨g, o, cur, hA, hg, (ht.block g (Array.getElem?_eq_some_iff.1 hc).1 fun o' h1 _ => hm h1).trans hc, hsz, hat⟩
end
end Go.Proofs.YtkgnlloioaobiaaGreat

/-
  Runs of equal elements, cut to one; cells written in a row.
-/
namespace Go.Proofs.YtkgnlloioaobiaaGreat
open Go.RowKit
set_option linter.unusedVariables false
set_option linter.unusedSimpArgs false

section
variable {α β : Type} (R : α → α → Bool)
def compG (p : α) : List α → List α
  | [] => []
  | a :: l => if R a p = true then compG a l else a :: compG a l
/-- The list without the elements that equal the one ahead. -/
def comp : List α → List α
  | [] => []
  | a :: l => a :: compG R a l
theorem compG_snoc : ∀ (l : List α) (p q a : α), (p :: l).getLast? = some q → compG R p (l ++ [a]) = if R a q = true then compG R p l else compG R p l ++ [a]
  | [], p, q, a, h => by
    simp at h; subst h
    simp [compG]
  | b :: l, p, q, a, h => by
    have ih := compG_snoc l b q a (by simpa using h)
    rw [List.cons_append]
    unfold compG
    rw [ih]
    by_cases h1 : R b p = true
    · rw [if_pos h1, if_pos h1]
    · rw [if_neg h1, if_neg h1]
      by_cases h2 : R a q = true
      · rw [if_pos h2, if_pos h2]
      · rw [if_neg h2, if_neg h2]; rfl
theorem comp_snoc {l : List α} {i : Nat} {p a : α} (hi : 0 < i) (hp : l[i - 1]? = some p) (ha : l[i]? = some a) : comp R (l.take (i + 1)) = if R a p = true then comp R (l.take i) else comp R (l.take i) ++ [a] := by
  obtain ⟨hil, hia⟩ := List.getElem?_eq_some_iff.1 ha
  rw [List.take_succ_eq_append_getElem hil, hia]
  cases l with
  | nil => simp at ha
  | cons x l =>
    obtain ⟨k, rfl⟩ : ∃ k, i = k + 1 := ⟨i - 1, by omega⟩
    rw [List.take_succ_cons]
    have hq : (x :: l.take k).getLast? = some p := by
      rw [← List.take_succ_cons, List.getLast?_eq_getElem?, List.length_take]
      have : min (k + 1) (x :: l).length = k + 1 := by omega
      rw [this, List.getElem?_take, if_pos (by omega)]
      exact hp
    show x :: compG R x (l.take k ++ [a]) = _
    rw [compG_snoc R _ _ _ _ hq]
    show _ = if R a p = true then x :: compG R x (l.take k) else x :: compG R x (l.take k) ++ [a]
    split <;> rfl
theorem comp_one {l : List α} : comp R (l.take 1) = l.take 1 := by
  cases l with
  | nil => rfl
  | cons a l => rfl
theorem comp_len : ∀ l : List α, (comp R l).length ≤ l.length
  | [] => Nat.le_refl _
  | a :: l => by
    have : ∀ (l : List α) (p : α), (compG R p l).length ≤ l.length := by
      intro l
      induction l with
      | nil => intro p; exact Nat.le_refl _
      | cons b l ih =>
        intro p
        unfold compG
        have := ih b
        split <;> simp <;> omega
    have := this l a
    show (compG R a l).length + 1 ≤ _
    simp; omega
theorem comp_sub : ∀ l : List α, (comp R l).Sublist l
  | [] => List.Sublist.refl _
  | a :: l => by
    have : ∀ (l : List α) (p : α), (compG R p l).Sublist l := by
      intro l
      induction l with
      | nil => intro p; exact List.Sublist.refl _
      | cons b l ih =>
        intro p
        unfold compG
        split
        · exact (ih b).cons _
        · exact (ih b).cons_cons _
    exact (this l a).cons_cons _
theorem comp_map (f : α → β) (S : β → β → Bool) (h : ∀ a b, R a b = S (f a) (f b)) : ∀ l : List α, (comp R l).map f = comp S (l.map f)
  | [] => rfl
  | a :: l => by
    have : ∀ (l : List α) (p : α), (compG R p l).map f = compG S (f p) (l.map f) := by
      intro l
      induction l with
      | nil => intro p; rfl
      | cons b l ih =>
        intro p
        unfold compG
        rw [List.map_cons]
        simp only [← h]
        split
        · exact ih b
        · rw [List.map_cons, ih b]
    show f a :: _ = f a :: _
    rw [this]
end

/-- What a row of writes leaves of the block. -/
theorem set_row (b : Nat) : ∀ (vs : List Value) (o : Nat) (w : World) {cur : Array Value} {e : TypeId} {fz : Nat × Nat}, w.heap[b]? = some (.cells cur e fz) → o + vs.length ≤ cur.size →
    ∃ cur', (w.setCells b o vs).heap[b]? = some (.cells cur' e fz) ∧ cur'.size = cur.size ∧ (∀ j, (j < o ∨ o + vs.length ≤ j) → cur'[j]? = cur[j]?) ∧ ∀ j, j < vs.length → cur'[o + j]? = vs[j]?
  | [], o, w, cur, e, fz, h, _ => ⟨cur, h, rfl, fun _ _ => rfl, fun j hj => by simp at hj⟩
  | v :: vs, o, w, cur, e, fz, h, hs => by
    have h1 : (w.setCell ⟨b, o, none⟩ v).heap[b]? = some (.cells (cur.setIfInBounds o v) e fz) := by
      simp only [World.setCell]
      rw [Array.getElem?_modify, if_pos rfl, h]
      rfl
    simp only [List.length_cons] at hs
    obtain ⟨cur', h2, s2, out, inn⟩ := set_row b vs (o + 1) _ h1 (by simp; omega)
    refine ⟨cur', h2, by simpa using s2, fun j hj => ?_, fun j hj => ?_⟩
    · simp only [List.length_cons] at hj
      rw [out j (by omega), Array.getElem?_setIfInBounds, if_neg (by omega)]
    · cases j with
      | zero =>
        rw [Nat.add_zero, out o (by omega), Array.getElem?_setIfInBounds, if_pos rfl, if_pos (by omega)]
        rfl
      | succ j =>
        have := inn j (by simp at hj; omega)
        rw [show o + (j + 1) = o + 1 + j by omega, this]
        rfl
theorem set_else (b : Nat) : ∀ (vs : List Value) (o : Nat) (w : World), (w.setCells b o vs).heap.size = w.heap.size ∧ (w.setCells b o vs).os = w.os ∧ (w.setCells b o vs).tape = w.tape ∧ (w.setCells b o vs).output = w.output ∧ ∀ k, k ≠ b → (w.setCells b o vs).heap[k]? = w.heap[k]?
  | [], o, w => ⟨rfl, rfl, rfl, rfl, fun _ _ => rfl⟩
  | v :: vs, o, w => by
    obtain ⟨h1, h2, h3, h4, h5⟩ := set_else b vs (o + 1) (w.setCell ⟨b, o, none⟩ v)
    refine ⟨h1.trans (by simp [World.setCell]), h2, h3, h4, fun k hk => (h5 k hk).trans ?_⟩
    simp only [World.setCell]
    rw [Array.getElem?_modify, if_neg fun e => hk e.symm]
theorem touch_set {A : Option Addr} {m g o : Nat} {W : World} (hA : A = some ⟨g, o, none⟩) (h0 : 0 < m) {vs : List Value} {p : Nat} (hp : o ≤ p) (hq : p + vs.length ≤ o + m * 4) {cur : Array Value} {fz : Nat × Nat} (hc : W.heap[g]? = some (.cells cur 56 fz)) (hs : o + m * 4 ≤ cur.size) : Touch A m W (W.setCells g p vs) := by
  obtain ⟨h1, h2, h3, h4, h5⟩ := set_else g vs p W
  refine ⟨h2, h3, h4, by rw [h1]; exact Nat.le_refl _, fun k hk hn => h5 k fun e => hn o h0 (by rw [e]; exact hA), fun g' o' cur' fz' hA' hc' => ?_⟩
  rw [hA] at hA'
  cases hA'
  rw [hc] at hc'
  simp only [Option.some.injEq, Obj.cells.injEq, true_and] at hc'
  obtain ⟨rfl, rfl⟩ := hc'
  obtain ⟨c2, k1, k2, k3, _⟩ := set_row g vs p W hc (by omega)
  exact ⟨c2, k1, k2, fun j hj => k3 j (by omega)⟩

theorem zero_cells (n : Nat) (vs : Array Value) (h : vs.size = 4) (h1 : ∀ v ∈ vs, v.oneCell' = true) : ∀ v ∈ (Builtin.zeroCells vs n).toList, v.oneCell' = true := by
  intro v hv
  simp only [Builtin.zeroCells, Array.toList_map, List.mem_map] at hv
  obtain ⟨i, _, rfl⟩ := hv
  refine h1 _ ?_
  rw [getElem!_pos vs _ (by rw [h]; exact Nat.mod_lt _ (by omega))]
  exact Array.getElem_mem _
theorem zero_size (n : Nat) (vs : Array Value) (h : vs.size = 4) : (Builtin.zeroCells vs n).toList.length = n * 4 := by
  simp [Builtin.zeroCells, h]
theorem run_clear_conds (w : World) (t : TypeId) (ht : Tryz.prog.underlying t = some (.slice 56)) (b o n c : Nat) (hn : 0 < n)
    (hc : ∀ j, j < n * 4 → (w.cell? ⟨b, o + j, none⟩).isSome = true) (hf : ∀ j, j < n * 4 → w.frozen? ⟨b, o + j, none⟩ = false) :
    ∃ vs, vs.length = n * 4 ∧ ∀ ty, (Builtin.clear_ #[t] ty #[.slice (some ⟨b, o, none⟩) n c]).run Tryz.prog w = .ok (.tuple #[]) (w.setCells b o vs) := by
  obtain ⟨i0, hi, hz0, hz1, hz2⟩ := info_parts infoCond
  have hcz : (Value.agg #[.int .i64 0, .int .i64 0, .slice none 0 0, .int .i64 0]).cells = #[.int .i64 0, .int .i64 0, .slice none 0 0, .int .i64 0] := by rfl
  have hv : ∀ w, (zeroValue 56).run Tryz.prog w = .ok (.agg #[.int .i64 0, .int .i64 0, .slice none 0 0, .int .i64 0]) w := fun w => by simp [zeroValue, run_typeInfo, hi, hz0]
  refine ⟨(Builtin.zeroCells (Value.agg #[.int .i64 0, .int .i64 0, .slice none 0 0, .int .i64 0]).cells n).toList, by rw [hcz]; exact zero_size n _ rfl, fun ty => ?_⟩
  have hst := run_storeCells_cells (P := Tryz.prog) b o (Builtin.zeroCells (Value.agg #[.int .i64 0, .int .i64 0, .slice none 0 0, .int .i64 0]).cells n).toList 0 w (by rw [hcz, zero_size n _ rfl]; simpa using hc) (by rw [hcz, zero_size n _ rfl]; simpa using hf)
    (by rw [hcz]; exact zero_cells n _ rfl (fun v hv => by obtain ⟨i, hi, rfl⟩ := Array.getElem_of_mem hv; match i, hi with | 0, _ => rfl | 1, _ => rfl | 2, _ => rfl | 3, _ => rfl))
  simp only [Nat.add_zero] at hst
  obtain ⟨m, rfl⟩ : ∃ m, n = m + 1 := ⟨n - 1, by omega⟩
  simp [Builtin.clear_, run_underlying ht, hv, hst]
end Go.Proofs.YtkgnlloioaobiaaGreat

/-
  cond.opposites.
-/
namespace Go.Proofs.YtkgnlloioaobiaaGreat
open Go.RowKit
set_option linter.unusedVariables false
set_option maxRecDepth 100000
set_option linter.unusedSimpArgs false

/-- The conditions of Negate before they are normalized. -/
def oppL (q M : Int) (n : Nat) (xs : List Int) (K : Int) : List CD :=
  if q = 0 then [⟨0, 0, mulL n (-1) xs, -1 * K + -1⟩]
  else if q = 1 then [⟨0, 0, mulL n 1 xs, 1 * K + -1⟩, ⟨0, 0, mulL n (-1) xs, -1 * K + -1⟩]
  else (List.range (M.toNat - 1)).map fun (r : Nat) => ⟨2, M, mulL n 1 xs, 1 * K + -((r : Int) + 1)⟩

theorem conds_lit {w : World} {g : Nat} {els : List CEl} (hg : w.heap[g]? = some (.cells (ccells els).toArray 56 (0, 0))) (hs : els.length ≤ 100000) (hi : ∀ e ∈ els, IntsAt w e.A e.n e.xs) : CondsAt w (some ⟨g, 0, none⟩) els.length els := by
  refine ⟨rfl, by omega, fun _ => ⟨g, 0, rfl, (Array.getElem?_eq_some_iff.1 hg).1, fun j e he => ?_⟩, hi⟩
  obtain ⟨a0, a1, a2, a3⟩ := ccells_at els j e he
  rw [Nat.zero_add]
  refine ⟨?_, ?_, ?_, ?_⟩
  · rw [cell_of_row w g (j * 4) _ _ (0, 0) hg]; simpa using a0
  · rw [cell_of_row w g (j * 4 + 1) _ _ (0, 0) hg]; simpa using a1
  · rw [cell_of_row w g (j * 4 + 2) _ _ (0, 0) hg]; simpa using a2
  · rw [cell_of_row w g (j * 4 + 3) _ _ (0, 0) hg]; simpa using a3

/-- The answer is a list of conditions. -/
def CondsRet (w : World) (e : Ending) (w' : World) (n : Nat) (ds : List CD) : Prop :=
  ∃ A c els, e = .returned (.slice A els.length c) ∧ CondsAt w' A els.length els ∧ els.map CEl.d = ds ∧ (∀ e ∈ els, e.n = n) ∧ Below w.heap.size w w'

section
variable (q M : Int) (A : Option Addr) (n c : Nat) (K : Int) (xs : List Int) (hK : -1048576 ≤ K ∧ K ≤ 1048576) (hx : Tame xs) (w : World) (hI : IntsAt w A n xs)
include hK hx hI


set_option maxHeartbeats 4000000 in
theorem opp_ge : Calls Tryz.prog 99 #[condV 0 M A n c K] w fun e w' => CondsRet w e w' n (oppL 0 M n xs K) := by
  have hB := below_alloc w (.cells #[.int .i64 0, .int .i64 M, .slice A n c, .int .i64 K] 56); have h1 := hI.step hB; have B1 := CBox.new w 0 M A n c K; have c0 := B1.c0; have c1 := B1.c1; have c2 := B1.c2; have c3 := B1.c3; have HS := Lib.hid (fun W (h : IntsAt W A n xs) => cond_shifted A n c K xs (-1) (-1) (.inr rfl) hK (by omega) hx W h); obtain ⟨k1, hk1⟩ : ∃ k, -1 * K + -1 = k := ⟨_, rfl⟩; rw [hk1] at HS
  have HR := Lib.hid (show oppL 0 M n xs K = [⟨0, 0, mulL n (-1) xs, k1⟩] by unfold oppL; rw [if_pos rfl, hk1])
  have T1 : True := trivial
  clear hI hk1
  go_enter Tryz.func99, Tryz.ntmps99
  go_wp2_with (first
    | (go_at_call 126; have t1 := T1; clear T1 t1; refine (HS.out _ h1).mono ?_; rintro e w1 ⟨A1, c1, rfl, I1, F1, hb⟩; have b5 := below_alloc w1 (.cells #[.int .i64 0, .int .i64 0, .slice A1 n c1, .int .i64 k1] 56); replace hB := below_step (below_step hB hb) b5; replace h1 := (h1.step hb).step b5; replace B1 := (B1.step hb).step b5; replace I1 := I1.step b5; have X1 := CBox.new w1 0 0 A1 n c1 k1; have d0 := X1.c0; have d1 := X1.c1; have d2 := X1.c2; have d3 := X1.c3; have c0 := B1.c0; have c1' := B1.c1; have c2 := B1.c2; have c3 := B1.c3; have l1 := B1.lt; have l2 := X1.lt; clear b5))
  have b6 := below_alloc (w1.alloc (.cells #[.int .i64 0, .int .i64 0, .slice A1 n c1, .int .i64 k1] 56)) (.cells #[.int .i64 0, .int .i64 0, .slice A1 n c1, .int .i64 k1] 56)
  have G6 := heap_alloc_new (w1.alloc (.cells #[.int .i64 0, .int .i64 0, .slice A1 n c1, .int .i64 k1] 56)) (.cells #[.int .i64 0, .int .i64 0, .slice A1 n c1, .int .i64 k1] 56)
  rw [World.size_alloc] at G6
  go_ret
  refine ⟨some ⟨_, 0, none⟩, 1, [⟨0, 0, A1, n, c1, k1, mulL n (-1) xs⟩], rfl, conds_lit G6 (by simp) (fun e he => by rw [List.mem_singleton.1 he]; exact I1.step b6), ?_, (fun e he => by rw [List.mem_singleton.1 he]), below_step hB b6⟩
  rw [HR.out]; rfl

set_option maxHeartbeats 4000000 in
theorem opp_eq : Calls Tryz.prog 99 #[condV 1 M A n c K] w fun e w' => CondsRet w e w' n (oppL 1 M n xs K) := by
  have hB := below_alloc w (.cells #[.int .i64 1, .int .i64 M, .slice A n c, .int .i64 K] 56); have h1 := hI.step hB; have B1 := CBox.new w 1 M A n c K; have c0 := B1.c0; have c1 := B1.c1; have c2 := B1.c2; have c3 := B1.c3; have HS := Lib.hid (fun W (h : IntsAt W A n xs) => cond_shifted A n c K xs (-1) (-1) (.inr rfl) hK (by omega) hx W h); obtain ⟨k1, hk1⟩ : ∃ k, -1 * K + -1 = k := ⟨_, rfl⟩; rw [hk1] at HS
  have HS2 := Lib.hid (fun W (h : IntsAt W A n xs) => cond_shifted A n c K xs 1 (-1) (.inl rfl) hK (by omega) hx W h)
  obtain ⟨k2, hk2⟩ : ∃ k, 1 * K + -1 = k := ⟨_, rfl⟩
  rw [hk2] at HS2
  have HR := Lib.hid (show oppL 1 M n xs K = [⟨0, 0, mulL n 1 xs, k2⟩, ⟨0, 0, mulL n (-1) xs, k1⟩] by unfold oppL; rw [if_neg (by decide), if_pos rfl, hk1, hk2])
  have T1 : True := trivial
  clear hI hk1 hk2
  go_enter Tryz.func99, Tryz.ntmps99
  go_wp2_with (first
    | (go_at_call 126; have t1 := T1; clear T1 t1; refine (HS.out _ h1).mono ?_; rintro e w1 ⟨A1, c1, rfl, I1, F1, hb⟩; have b5 := below_alloc w1 (.cells #[.int .i64 0, .int .i64 0, .slice A1 n c1, .int .i64 k1] 56); replace hB := below_step (below_step hB hb) b5; replace h1 := (h1.step hb).step b5; replace B1 := (B1.step hb).step b5; replace I1 := I1.step b5; have X1 := CBox.new w1 0 0 A1 n c1 k1; have d0 := X1.c0; have d1 := X1.c1; have d2 := X1.c2; have d3 := X1.c3; have c0 := B1.c0; have c1' := B1.c1; have c2 := B1.c2; have c3 := B1.c3; have l1 := B1.lt; have l2 := X1.lt; clear b5))
  generalize hw3 : (w1.alloc (.cells #[.int .i64 0, .int .i64 0, .slice A1 n c1, .int .i64 k1] 56)) = w3 at *
  clear hw3
  replace hB := hB.drew
  replace h1 := h1.step (Below.refl _ w3).drew
  replace B1 := B1.step (Below.refl _ w3).drew
  replace X1 := X1.step (Below.refl _ w3).drew
  replace I1 := I1.step (Below.refl _ w3).drew
  go_region_held3 (fun W => W.cell? ⟨w.heap.size, 2, none⟩ = some (.slice A n c) ∧ W.cell? ⟨w.heap.size, 3, none⟩ = some (.int .i64 K) ∧ W.cell? ⟨w1.heap.size, 0, none⟩ = some (.int .i64 0) ∧ W.cell? ⟨w1.heap.size, 1, none⟩ = some (.int .i64 0) ∧ W.cell? ⟨w1.heap.size, 2, none⟩ = some (.slice A1 n c1) ∧ W.cell? ⟨w1.heap.size, 3, none⟩ = some (.int .i64 k1)) (first | exact ⟨e2, e3, e4, e5, e6, e7⟩ | exact ⟨c2, c3, d0, d1, d2, d3⟩ | exact ⟨g2, g3, g4, g5, g6, g7⟩ | go_keep)
    (first
      | (go_at_call 126; refine (HS2.out _ h1).mono ?_; rintro e w4 ⟨A2, c2, rfl, I2, F2, hb⟩; replace hB := below_step hB hb; replace B1 := B1.step hb; replace X1 := X1.step hb; replace I1 := I1.step hb; have e2 := B1.c2; have e3 := B1.c3; have e4 := X1.c0; have e5 := X1.c1; have e6 := X1.c2; have e7 := X1.c3; have Y1 := B1.alloc (.cells (ccells [⟨0, 0, A2, n, c2, k2, mulL n 1 xs⟩, ⟨0, 0, A1, n, c1, k1, mulL n (-1) xs⟩]).toArray 56); have Y2 := X1.alloc (.cells (ccells [⟨0, 0, A2, n, c2, k2, mulL n 1 xs⟩, ⟨0, 0, A1, n, c1, k1, mulL n (-1) xs⟩]).toArray 56); have g2 := Y1.c2; have g3 := Y1.c3; have g4 := Y2.c0; have g5 := Y2.c1; have g6 := Y2.c2; have g7 := Y2.c3))
  all_goals
    have b6 := below_alloc w4 (.cells (ccells [⟨0, 0, A2, n, c2, k2, mulL n 1 xs⟩, ⟨0, 0, A1, n, c1, k1, mulL n (-1) xs⟩]).toArray 56)
    go_wp2
    go_ret
    refine ⟨some ⟨_, 0, none⟩, 2, [⟨0, 0, A2, n, c2, k2, mulL n 1 xs⟩, ⟨0, 0, A1, n, c1, k1, mulL n (-1) xs⟩], rfl, conds_lit (heap_alloc_new w4 _) (by simp) (fun e he => by
      rcases List.mem_cons.1 he with rfl | he
      · exact I2.step b6
      · rw [List.mem_singleton.1 he]; exact I1.step b6), ?_, (fun e he => by
      rcases List.mem_cons.1 he with rfl | he
      · rfl
      · rw [List.mem_singleton.1 he]), below_step hB b6⟩
    rw [HR.out]; rfl

omit hK hx hI in
theorem range_snoc (f : Nat → CD) (i : Nat) : (List.range (i + 1)).map f = (List.range i).map f ++ [f i] := by simp [List.range_succ]

set_option maxHeartbeats 8000000 in
set_option maxRecDepth 100000 in
theorem opp_dv (hM : 1 ≤ M ∧ M ≤ 512) : Calls Tryz.prog 99 #[condV 2 M A n c K] w fun e w' => CondsRet w e w' n (oppL 2 M n xs K) := by
  have hB := below_alloc w (.cells #[.int .i64 2, .int .i64 M, .slice A n c, .int .i64 K] 56); have h1 := hI.step hB; have B1 := CBox.new w 2 M A n c K; have c0 := B1.c0; have c1 := B1.c1; have c2 := B1.c2; have c3 := B1.c3; have HS := Lib.hid (fun W (h : IntsAt W A n xs) => cond_shifted A n c K xs (-1) (-1) (.inr rfl) hK (by omega) hx W h); obtain ⟨k1, hk1⟩ : ∃ k, -1 * K + -1 = k := ⟨_, rfl⟩; rw [hk1] at HS
  have HS2 := Lib.hid (fun (i : Nat) (hi : (i : Int) ≤ 512) W (h : IntsAt W A n xs) => cond_shifted A n c K xs 1 (-(i : Int)) (.inl rfl) hK (by omega) hx W h)
  have HR := Lib.hid (show oppL 2 M n xs K = (List.range (M.toNat - 1)).map fun (r : Nat) => ⟨2, M, mulL n 1 xs, 1 * K + -((r : Int) + 1)⟩ by unfold oppL; rw [if_neg (by decide), if_neg (by decide)])
  have T1 : True := trivial
  clear hI hk1
  go_enter Tryz.func99, Tryz.ntmps99
  go_wp2_with (first
    | (go_at_call 126; have t1 := T1; clear T1 t1; refine (HS.out _ h1).mono ?_; rintro e w1 ⟨A1, c1, rfl, I1, F1, hb⟩; have b5 := below_alloc w1 (.cells #[.int .i64 0, .int .i64 0, .slice A1 n c1, .int .i64 k1] 56); replace hB := below_step (below_step hB hb) b5; replace h1 := (h1.step hb).step b5; replace B1 := (B1.step hb).step b5; replace I1 := I1.step b5; have X1 := CBox.new w1 0 0 A1 n c1 k1; have d0 := X1.c0; have d1 := X1.c1; have d2 := X1.c2; have d3 := X1.c3; have c0 := B1.c0; have c1' := B1.c1; have c2 := B1.c2; have c3 := B1.c3; have l1 := B1.lt; have l2 := X1.lt; clear b5))
  generalize hw3 : (w1.alloc (.cells #[.int .i64 0, .int .i64 0, .slice A1 n c1, .int .i64 k1] 56)) = w3 at *
  clear hw3 hb I1 F1 X1 d0 d1 d2 d3 l2 c0 c1' c2 c3
  go_loopw [4, 5] (fun u v wr => ∃ (i : Nat) (els : List CEl), (i : Int) + 1 ≤ M ∧ v = .int .i64 ((i : Int) + 1) ∧ CL w3.heap.size wr u els ∧ els.map CEl.d = (List.range i).map (fun (r : Nat) => (⟨2, M, mulL n 1 xs, 1 * K + -((r : Int) + 1)⟩ : CD)) ∧ (∀ e ∈ els, e.n = n) ∧ Below w3.heap.size w3 wr) (fun _ v _ => (M - intOf v).toNat)
  case atStart => exact ⟨0, [], by omega, by simp, CL.nil _ _, rfl, (fun e h => nomatch h), Below.refl _ _⟩
  case round =>
    obtain ⟨i, els, hi, rfl, hL, hd, hn, hbr⟩ := hrel
    have HLEN := Lib.hid (show els.length = i by have := congrArg List.length hd; simpa using this)
    have HD := Lib.hid (And.intro hd hn)
    have S1 := B1.below hbr l1
    have c1 := S1.c1
    have c2 := S1.c2
    have c3 := S1.c3
    have hNs := hbr.size
    clear hd hn
    by_cases hlt : (i : Int) + 1 < M
    · have hS3 := HS2.out (i + 1) (by omega)
      obtain ⟨kk, hkk⟩ : ∃ k, 1 * K + -(((i : Nat) : Int) + 1) = k := ⟨_, rfl⟩
      have HKK := Lib.hid hkk
      rw [show (((i + 1 : Nat) : Int)) = (i : Int) + 1 by omega, hkk] at hS3
      have HS3 := Lib.hid hS3
      have hwn : IntKind.i64.wrap (-((i : Int) + 1)) = -((i : Int) + 1) := IntWalk.i64_in _ (by omega)
      have hwp : IntKind.i64.wrap ((i : Int) + 1 + 1) = (i : Int) + 1 + 1 := IntWalk.i64_in _ (by omega)
      clear hkk hS3
      obtain ⟨A0, c00, rfl⟩ := hL.slice
      go_wp2
      have h1r := h1.step (below_step (Below.refl _ w3) hbr).drew
      replace hbr := hbr.drew
      replace hL := hL.step (Below.refl _ wr).drew
      have hNs2 : w3.heap.size ≤ wr.drew.heap.size := hNs
      go_region_held3 (fun W => W.cell? ⟨w.heap.size, 1, none⟩ = some (.int .i64 M) ∧ W.cell? ⟨w.heap.size, 2, none⟩ = some (.slice A n c) ∧ W.cell? ⟨w.heap.size, 3, none⟩ = some (.int .i64 K)) (first | exact ⟨e1, e2, e3⟩ | exact ⟨c1, c2, c3⟩ | exact ⟨g1, g2, g3⟩ | exact ⟨f1, f2, f3⟩ | go_keep)
        (first
          | (go_at_call 126; refine (HS3.out _ h1r).mono ?_; rintro e w4 ⟨A2, c2, rfl, I2, F2, hb⟩; have b5 := below_alloc w4 (.cells #[.int .i64 2, .int .i64 M, .slice A2 n c2, .int .i64 kk] 56); have hN4 := Nat.le_trans hNs2 hb.size; replace hbr := hbr.trans (hb.mono hNs2); have Z1 := B1.below hbr l1; have e1 := Z1.c1; have e2 := Z1.c2; have e3 := Z1.c3; have hbr5 := hbr.trans (b5.mono hN4); have Z2 := B1.below hbr5 l1; have g1 := Z2.c1; have g2 := Z2.c2; have g3 := Z2.c3; have L5 := (hL.step hb).step b5; have I5 := I2.step b5; have R5 := (F2.ok hNs2).step b5; have G5 := heap_alloc_new w4 (.cells #[.int .i64 2, .int .i64 M, .slice A2 n c2, .int .i64 kk] 56); have hN5 := Nat.le_trans hN4 b5.size)
          | (refine step_append_cond rfl _ _ 34 rfl rfl rfl L5 w4.heap.size ⟨2, M, A2, n, c2, kk, mulL n 1 xs⟩ rfl G5 I5 R5 (by have := HLEN.out; omega) hN5 ?_; intro g6 cap6 w6 L6 gr6 hb6; replace hbr := hbr5.trans hb6; have Z3 := B1.below hbr l1; have f1 := Z3.c1; have f2 := Z3.c2; have f3 := Z3.c3))
      all_goals
        have HN := Lib.hid (And.intro L6 hbr)
        clear L5 I5 R5 G5 hbr5 hL hN5 e1 e2 e3 g1 g2 g3 f1 f2 f3
        go_wp2
        go_roundw
        case rel => exact ⟨i + 1, els ++ [⟨2, M, A2, n, c2, kk, mulL n 1 xs⟩], by omega, by simp [hwp], HN.out.1, by rw [range_snoc, List.map_append, HD.out.1, ← HKK.out]; rfl, (fun e he => by
          rcases List.mem_append.1 he with h | h
          · exact HD.out.2 e h
          · rw [List.mem_singleton.1 h]), HN.out.2⟩
        case measure => simp [intOf, hwp]; omega
    · have hge : ¬ ((i : Int) + 1 < M) := hlt
      obtain ⟨A0, c00, rfl⟩ := hL.slice
      obtain ⟨_, hC⟩ := hL.conds
      have hend := below_step hB hbr
      clear hL
      go_wp2
      go_ret
      exact ⟨A0, c00, els, rfl, hC, by rw [HD.out.1, HR.out, show M.toNat - 1 = i by omega], HD.out.2, hend⟩
end
end Go.Proofs.YtkgnlloioaobiaaGreat

/-
  The normal form as mathematics: it holds where its condition holds, and is its own normal form.
-/
namespace Go.Proofs.YtkgnlloioaobiaaGreat
open Go.RowKit
set_option linter.unusedVariables false
set_option linter.unusedSimpArgs false

theorem gcdA_scale (D : Int) : ∀ (xs : List Int) (g : Nat), gcdA (g * D.natAbs) (xs.map (· * D)) = gcdA g xs * D.natAbs
  | [], g => rfl
  | x :: xs, g => by
    show gcdA (Nat.gcd (g * D.natAbs) (x * D).natAbs) (xs.map (· * D)) = gcdA (Nat.gcd g x.natAbs) xs * D.natAbs
    rw [Int.natAbs_mul, Nat.gcd_mul_right]
    exact gcdA_scale D xs _
theorem gcdA_mem {g : Nat} {xs : List Int} {x : Int} (h : x ∈ xs) : ((gcdA g xs : Nat) : Int) ∣ x := Int.ofNat_dvd_left.2 ((gcd_fold xs g).2.1 x h)
theorem quo_back {n : Nat} {xs : List Int} {D : Int} (hl : xs.length = n) (hd : ∀ x ∈ xs, D ∣ x) : (quoL n xs D).map (· * D) = xs := by
  apply List.ext_getElem (by simp [quoL, hl])
  intro j h1 h2
  simp only [quoL, List.getElem_map, List.getElem_range]
  have e : xs[j]?.getD 0 = xs[j] := by simp [h2]
  rw [e, Int.tdiv_mul_cancel (hd _ (List.getElem_mem h2))]
theorem quo_len (n : Nat) (xs : List Int) (D : Int) : (quoL n xs D).length = n := by simp [quoL]
theorem quo_get {n j : Nat} {xs : List Int} {D : Int} (hj : j < n) : (quoL n xs D)[j]?.getD 0 = (xs[j]?.getD 0).tdiv D := by unfold quoL; exact tab_get _ hj
theorem quo_gcd {n : Nat} {xs : List Int} {D : Int} (hl : xs.length = n) (h0 : gcdA 0 xs ≠ 0) (hD : D.natAbs = gcdA 0 xs) : gcdA 0 (quoL n xs D) = 1 := by
  have hd : ∀ x ∈ xs, D ∣ x := fun x hx => by
    have := gcdA_mem (g := 0) hx
    rw [← hD] at this
    exact Int.natAbs_dvd.1 this
  have h := gcdA_scale D (quoL n xs D) 0
  rw [quo_back hl hd, Nat.zero_mul, hD] at h
  have h2 : gcdA 0 (quoL n xs D) * gcdA 0 xs = 1 * gcdA 0 xs := by rw [← h, Nat.one_mul]
  exact Nat.eq_of_mul_eq_mul_right (Nat.pos_of_ne_zero h0) h2
theorem quo_one {n : Nat} {xs : List Int} (hl : xs.length = n) : quoL n xs 1 = xs := by
  have := quo_back (D := 1) hl (fun x _ => Int.one_dvd x)
  simpa using this
theorem dot_scale {xs ys ps : List Int} {D : Int} : ∀ i, (∀ j, j < i → xs[j]?.getD 0 = D * ys[j]?.getD 0) → dotSum xs ps i = D * dotSum ys ps i
  | 0, _ => by simp [dotSum]
  | i + 1, h => by
    have := dot_scale (ps := ps) i fun j hj => h j (by omega)
    simp only [dotSum, this, h i (by omega), Int.mul_add, Int.mul_assoc]
theorem dot_quo {n : Nat} {xs ps : List Int} {D : Int} (hl : xs.length = n) (hd : ∀ x ∈ xs, D ∣ x) : dotSum xs ps n = D * dotSum (quoL n xs D) ps n := by
  refine dot_scale n fun j hj => ?_
  rw [quo_get hj, Int.mul_comm, Int.tdiv_mul_cancel (hd _ (getD_mem (by omega)))]
theorem dot_zero {xs ps : List Int} : ∀ i, (∀ j, j < i → xs[j]?.getD 0 = 0) → dotSum xs ps i = 0
  | 0, _ => rfl
  | i + 1, h => by
    have := dot_zero (ps := ps) i fun j hj => h j (by omega)
    simp only [dotSum, this, h i (by omega), Int.zero_mul]; rfl
theorem dot_mod {xs ys ps : List Int} {M : Int} : ∀ i, (∀ j, j < i → M ∣ xs[j]?.getD 0 - ys[j]?.getD 0) → M ∣ dotSum xs ps i - dotSum ys ps i
  | 0, _ => by simp [dotSum]
  | i + 1, h => by
    have h1 := dot_mod (ps := ps) i fun j hj => h j (by omega)
    have h2 := h i (by omega)
    simp only [dotSum]
    obtain ⟨a, ha⟩ := h1
    obtain ⟨b, hb⟩ := h2
    refine ⟨a + b * ps[i]?.getD 0, ?_⟩
    rw [Int.mul_add, ← Int.mul_assoc, ← ha, ← hb, Int.sub_mul]
    omega
theorem all_zero {xs : List Int} (h : gcdA 0 xs = 0) (j : Nat) : xs[j]?.getD 0 = 0 := by
  by_cases hj : j < xs.length
  · have := gcdA_mem (g := 0) (getD_mem hj)
    rw [h] at this
    exact Int.zero_dvd.1 this
  · simp [hj]

theorem lead_quo {n : Nat} {xs : List Int} {D : Int} (hl : xs.length = n) (hD : D ≠ 0) (hd : ∀ x ∈ xs, D ∣ x) : leadI xs = leadI (quoL n xs D) * D := by
  have key : ∀ ys : List Int, leadI (ys.map (· * D)) = leadI ys * D := by
    intro ys
    induction ys with
    | nil => simp [leadI]
    | cons y ys ih =>
      simp only [List.map_cons, leadI]
      by_cases h : y = 0
      · subst h; simp [ih]
      · rw [if_neg h, if_neg (by simp [h, hD])]
  have h := key (quoL n xs D)
  rw [quo_back hl hd] at h
  exact h
theorem leadBy_one {n : Nat} {xs : List Int} {G : Nat} (hl : xs.length = n) (h0 : G ≠ 0) (hd : ∀ x ∈ xs, (G : Int) ∣ x) : leadBy (quoL n xs (leadBy xs G)) 1 = 1 := by
  have hd2 : ∀ x ∈ xs, leadBy xs G ∣ x := fun x hx => by
    unfold leadBy; split
    · exact Int.neg_dvd.2 (hd x hx)
    · exact hd x hx
  have hne : leadBy xs G ≠ 0 := by unfold leadBy; split <;> omega
  have h := lead_quo hl hne hd2
  have h3 : leadBy xs G = if leadI xs < 0 then -(G : Int) else G := rfl
  generalize quoL n xs (leadBy xs G) = ys at *
  show (if leadI ys < 0 then -((1 : Nat) : Int) else (1 : Nat)) = 1
  rw [if_neg]
  · rfl
  · intro hn
    by_cases hx : leadI xs < 0
    · rw [if_pos hx] at h3
      rw [h3] at h
      have : leadI ys * -(G : Int) > 0 := Int.mul_pos_of_neg_of_neg hn (by omega)
      omega
    · rw [if_neg hx] at h3
      rw [h3] at h
      have : leadI ys * (G : Int) < 0 := Int.mul_neg_of_neg_of_pos hn (by omega)
      omega

/-- The four shapes of a normal form. -/
inductive NfCase (q M : Int) (n : Nat) (xs : List Int) (K : Int) : Prop
  | fixed (s : Int) (hs : s = 1 ∨ s = -1) (h : nf q M n xs K = (0, 0, [], 0, s)) (hh : ∀ ps, holdB q M (K + dotSum xs ps n) = decide (s = 1))
  | ge (g : Int) (hq : q = 0) (hg : 1 ≤ g) (h : nf q M n xs K = (0, 0, quoL n xs g, K / g, 0)) (h1 : gcdA 0 (quoL n xs g) = 1) (hd : ∀ x ∈ xs, g ∣ x)
  | eq (D : Int) (hq : q = 1) (hD : D ≠ 0) (h : nf q M n xs K = (1, 0, quoL n xs D, K.tdiv D, 0)) (h1 : gcdA 0 (quoL n xs D) = 1) (h2 : leadBy (quoL n xs D) 1 = 1) (hd : ∀ x ∈ xs, D ∣ x) (hK : D ∣ K)
  | dv (h : Nat) (hq : q = 2) (h0 : 1 ≤ h) (hM : (h : Int) ∣ M) (hne : (h : Int) ≠ M) (e : nf q M n xs K = (2, M / h, remL n xs M h, (K % M) / h, 0)) (hd : ∀ x ∈ xs, (h : Int) ∣ x) (hK : (h : Int) ∣ K) (hg : gcdA M.natAbs xs = h)

theorem nf_case {q M : Int} {n : Nat} {xs : List Int} {K : Int} (hl : xs.length = n) (hq : KindOk q M) : NfCase q M n xs K := by
  rcases hq with rfl | rfl | ⟨rfl, hM⟩
  · by_cases h0 : gcdA 0 xs = 0
    · refine .fixed (if 0 ≤ K then 1 else -1) (by split <;> simp) (by unfold nf; rw [if_pos rfl, if_pos h0]) fun ps => ?_
      rw [dot_zero n fun j _ => all_zero h0 j]
      unfold holdB; rw [if_pos rfl, Int.add_zero]
      split <;> simp_all
    · refine .ge (gcdA 0 xs : Nat) rfl (by omega) (by unfold nf; rw [if_pos rfl, if_neg h0]) (quo_gcd hl h0 (by simp)) fun x hx => gcdA_mem hx
  · by_cases h0 : gcdA 0 xs = 0
    · refine .fixed (if K = 0 then 1 else -1) (by split <;> simp) (by unfold nf; rw [if_neg (by decide), if_pos rfl, if_pos h0]) fun ps => ?_
      rw [dot_zero n fun j _ => all_zero h0 j]
      unfold holdB; rw [if_neg (by decide), if_pos rfl, Int.add_zero]
      split <;> simp_all
    · have hd : ∀ x ∈ xs, ((gcdA 0 xs : Nat) : Int) ∣ x := fun x hx => gcdA_mem hx
      by_cases h1 : K.tmod (gcdA 0 xs : Nat) = 0
      · have hK : ((gcdA 0 xs : Nat) : Int) ∣ K := Int.dvd_of_tmod_eq_zero h1
        have hv : ∀ z : Int, ((gcdA 0 xs : Nat) : Int) ∣ z → leadBy xs (gcdA 0 xs) ∣ z := fun z hz => by
          unfold leadBy; split
          · exact Int.neg_dvd.2 hz
          · exact hz
        refine .eq (leadBy xs (gcdA 0 xs)) rfl (by unfold leadBy; split <;> omega) (by unfold nf; rw [if_neg (by decide), if_pos rfl, if_neg h0, if_neg (by simpa using h1)]) (quo_gcd hl h0 (by unfold leadBy; split <;> omega)) (leadBy_one hl h0 hd) (fun x hx => hv x (hd x hx)) (hv K hK)
      · refine .fixed (-1) (.inr rfl) (by unfold nf; rw [if_neg (by decide), if_pos rfl, if_neg h0, if_pos h1]) fun ps => ?_
        unfold holdB
        rw [if_neg (by decide), if_pos rfl, dot_quo hl hd]
        have : K + ((gcdA 0 xs : Nat) : Int) * dotSum (quoL n xs (gcdA 0 xs : Nat)) ps n ≠ 0 := by
          intro e
          apply h1
          have : K = ((gcdA 0 xs : Nat) : Int) * -dotSum (quoL n xs (gcdA 0 xs : Nat)) ps n := by rw [Int.mul_neg]; omega
          rw [this]; exact Int.mul_tmod_right _ _
        simp [this]
  · have hgM : ((gcdA M.natAbs xs : Nat) : Int) ∣ M := Int.ofNat_dvd_left.2 (gcdA_dvd xs M.natAbs)
    have hpos := (gcdA_le (xs := xs) (show 0 < M.natAbs by omega)).1
    have hd : ∀ x ∈ xs, ((gcdA M.natAbs xs : Nat) : Int) ∣ x := fun x hx => gcdA_mem hx
    have hKK : (K % M) % ((gcdA M.natAbs xs : Nat) : Int) = K % ((gcdA M.natAbs xs : Nat) : Int) := Int.emod_emod_of_dvd K hgM
    by_cases h1 : (K % M) % ((gcdA M.natAbs xs : Nat) : Int) = 0
    · have hK : ((gcdA M.natAbs xs : Nat) : Int) ∣ K := by rw [hKK] at h1; exact Int.dvd_of_emod_eq_zero h1
      by_cases h2 : ((gcdA M.natAbs xs : Nat) : Int) = M
      · refine .fixed 1 (.inl rfl) (by unfold nf; rw [if_neg (by decide), if_neg (by decide), if_neg (by simpa using h1), if_pos h2]) fun ps => ?_
        unfold holdB
        rw [if_neg (by decide), if_neg (by decide), dot_quo hl hd, h2]
        rw [h2] at hK
        have : (K + M * dotSum (quoL n xs M) ps n) % M = 0 := by rw [Int.add_mul_emod_self_left]; exact Int.emod_eq_zero_of_dvd hK
        simp [this]
      · exact .dv (gcdA M.natAbs xs) rfl hpos hgM h2 (by unfold nf; rw [if_neg (by decide), if_neg (by decide), if_neg (by simpa using h1), if_neg h2]) hd hK rfl
    · refine .fixed (-1) (.inr rfl) (by unfold nf; rw [if_neg (by decide), if_neg (by decide), if_pos h1]) fun ps => ?_
      unfold holdB
      rw [if_neg (by decide), if_neg (by decide), dot_quo hl hd]
      have : ¬ (K + ((gcdA M.natAbs xs : Nat) : Int) * dotSum (quoL n xs (gcdA M.natAbs xs : Nat)) ps n) % M = 0 := by
        intro e
        apply h1
        rw [hKK]
        have h3 := Int.dvd_trans hgM (Int.dvd_of_emod_eq_zero e)
        have h4 := Int.dvd_sub h3 (Int.dvd_mul_right ((gcdA M.natAbs xs : Nat) : Int) (dotSum (quoL n xs (gcdA M.natAbs xs : Nat)) ps n))
        rw [Int.add_sub_cancel] at h4
        exact Int.emod_eq_zero_of_dvd h4
      simp [this]

theorem rem_len (n : Nat) (xs : List Int) (M h : Int) : (remL n xs M h).length = n := by simp [remL]
theorem rem_get {n j : Nat} {xs : List Int} {M h : Int} (hj : j < n) : (remL n xs M h)[j]?.getD 0 = (xs[j]?.getD 0 % M) / h := by unfold remL; exact tab_get _ hj

/-- A condition and its normal form hold at the same points. -/
theorem nf_holds {q M : Int} {n : Nat} {xs : List Int} {K : Int} (hl : xs.length = n) (hq : KindOk q M) (ps : List Int) :
    holdB q M (K + dotSum xs ps n) = if (nf q M n xs K).2.2.2.2 = 0 then holdB (nf q M n xs K).1 (nf q M n xs K).2.1 ((nf q M n xs K).2.2.2.1 + dotSum (nf q M n xs K).2.2.1 ps n) else decide ((nf q M n xs K).2.2.2.2 = 1) := by
  rcases nf_case (K := K) hl hq with ⟨s, hs, h, hh⟩ | ⟨g, rfl, hg, h, h1, hd⟩ | ⟨D, rfl, hD, h, h1, h2, hd, hK⟩ | ⟨h, rfl, h0, hM, hne, e, hd, hK, hg⟩
  · rw [h, hh ps, if_neg (by rcases hs with rfl | rfl <;> decide)]
  · rw [h, if_pos rfl, dot_quo hl hd]
    unfold holdB
    rw [if_pos rfl, if_pos rfl]
    apply decide_eq_decide.2
    have hgp : 0 < g := by omega
    rw [← Int.add_mul_ediv_left K _ (show g ≠ 0 by omega)]
    exact (Int.ediv_nonneg_iff_of_pos hgp).symm
  · rw [h, if_pos rfl, dot_quo hl hd]
    unfold holdB
    rw [if_neg (by decide), if_pos rfl, if_neg (show ¬ ((1, 0, quoL n xs D, K.tdiv D, 0) : Int × Int × List Int × Int × Int).1 = 0 from (by decide : ¬ (1 : Int) = 0)), if_pos (show ((1, 0, quoL n xs D, K.tdiv D, 0) : Int × Int × List Int × Int × Int).1 = 1 by rfl)]
    apply decide_eq_decide.2
    show K + D * dotSum (quoL n xs D) ps n = 0 ↔ K.tdiv D + dotSum (quoL n xs D) ps n = 0
    have hk : K = D * K.tdiv D := (Int.mul_tdiv_cancel' hK).symm
    generalize dotSum (quoL n xs D) ps n = y at *
    generalize K.tdiv D = k at *
    subst hk
    rw [← Int.mul_add]
    constructor
    · intro e
      rcases Int.mul_eq_zero.1 e with h | h
      · exact absurd h hD
      · exact h
    · intro e; rw [e, Int.mul_zero]
  · rw [e, if_pos rfl]
    unfold holdB
    rw [if_neg (by decide), if_neg (by decide), if_neg (show ¬ ((2, M / (h : Int), remL n xs M h, K % M / (h : Int), 0) : Int × Int × List Int × Int × Int).1 = 0 from (by decide : ¬ (2 : Int) = 0)), if_neg (show ¬ ((2, M / (h : Int), remL n xs M h, K % M / (h : Int), 0) : Int × Int × List Int × Int × Int).1 = 1 from (by decide : ¬ (2 : Int) = 1))]
    apply decide_eq_decide.2
    show (K + dotSum xs ps n) % M = 0 ↔ (K % M / (h : Int) + dotSum (remL n xs M h) ps n) % (M / (h : Int)) = 0
    have hh0 : (h : Int) ≠ 0 := by omega
    have hdr : dotSum ((List.range n).map fun j => (h : Int) * ((xs[j]?.getD 0 % M) / (h : Int))) ps n = h * dotSum (remL n xs M h) ps n := dot_scale n fun j hj => by rw [tab_get _ hj, rem_get hj]
    have hem : ∀ z : Int, (h : Int) ∣ z → (h : Int) * (z % M / (h : Int)) = z % M := fun z hz => Int.mul_ediv_cancel' (by
      have := Int.dvd_sub hz (Int.dvd_trans hM (Int.dvd_mul_right M (z / M)))
      have e2 := Int.mul_ediv_add_emod z M
      rwa [show z - M * (z / M) = z % M by omega] at this)
    have hdm := dot_mod (M := M) (xs := xs) (ys := (List.range n).map fun j => (h : Int) * ((xs[j]?.getD 0 % M) / (h : Int))) (ps := ps) n fun j hj => by
      rw [tab_get _ hj, hem _ (hd _ (getD_mem (by omega)))]
      have e2 := Int.mul_ediv_add_emod (xs[j]?.getD 0) M
      exact ⟨xs[j]?.getD 0 / M, by omega⟩
    rw [hdr] at hdm
    have hkm : M ∣ K - h * (K % M / (h : Int)) := by
      rw [hem K hK]
      have e2 := Int.mul_ediv_add_emod K M
      exact ⟨K / M, by omega⟩
    generalize dotSum (remL n xs M h) ps n = y at *
    generalize K % M / (h : Int) = k at *
    generalize dotSum xs ps n = d at *
    obtain ⟨m, rfl⟩ := hM
    rw [Int.mul_ediv_cancel_left _ hh0]
    have hsum := Int.dvd_add hkm hdm
    rw [show K - h * k + (d - h * y) = (K + d) - h * (k + y) by rw [Int.mul_add]; omega] at hsum
    constructor
    · intro e0
      have h5 := Int.dvd_sub (Int.dvd_of_emod_eq_zero e0) hsum
      rw [show K + d - (K + d - ↑h * (k + y)) = ↑h * (k + y) by omega] at h5
      exact Int.emod_eq_zero_of_dvd (Int.dvd_of_mul_dvd_mul_left hh0 h5)
    · intro e0
      have h5 := Int.dvd_add hsum (Int.mul_dvd_mul_left (h : Int) (Int.dvd_of_emod_eq_zero e0))
      rw [show K + d - ↑h * (k + y) + ↑h * (k + y) = K + d by omega] at h5
      exact Int.emod_eq_zero_of_dvd h5

def modL0 (n : Nat) (xs : List Int) (M : Int) : List Int := (List.range n).map fun j => xs[j]?.getD 0 % M
theorem rem_gcd {n : Nat} {xs : List Int} {M : Int} {h : Nat} (hl : xs.length = n) (h0 : 1 ≤ h) (hM : (h : Int) ∣ M) (hd : ∀ x ∈ xs, (h : Int) ∣ x) (hg : gcdA M.natAbs xs = h) : gcdA (M / (h : Int)).natAbs (remL n xs M h) = 1 := by
  have h1 := gcdA_scale (h : Int) (remL n xs M h) (M / (h : Int)).natAbs
  have hh0 : (h : Int) ≠ 0 := by omega
  have e1 : (M / (h : Int)).natAbs * (h : Int).natAbs = M.natAbs := by rw [← Int.natAbs_mul, Int.ediv_mul_cancel hM]
  have e2 : (remL n xs M h).map (· * (h : Int)) = modL0 n xs M := by
    unfold remL modL0
    rw [List.map_map]
    apply List.map_congr_left
    intro j hj
    show xs[j]?.getD 0 % M / (h : Int) * h = xs[j]?.getD 0 % M
    refine Int.ediv_mul_cancel ?_
    have hz := hd _ (getD_mem (xs := xs) (j := j) (by rw [hl]; exact List.mem_range.1 hj))
    have h3 := Int.dvd_sub hz (Int.dvd_trans hM (Int.dvd_mul_right M (xs[j]?.getD 0 / M)))
    have e3 := Int.mul_ediv_add_emod (xs[j]?.getD 0) M
    rwa [show xs[j]?.getD 0 - M * (xs[j]?.getD 0 / M) = xs[j]?.getD 0 % M by omega] at h3
  rw [e1, e2] at h1
  have e4 : gcdA M.natAbs (modL0 n xs M) = gcdA M.natAbs xs := by
    obtain ⟨a1, a2, a3⟩ := gcd_fold (modL0 n xs M) M.natAbs
    obtain ⟨b1, b2, b3⟩ := gcd_fold xs M.natAbs
    have key : ∀ (d : Nat) (x : Int), d ∣ M.natAbs → (d ∣ (x % M).natAbs ↔ d ∣ x.natAbs) := by
      intro d x hdM
      rw [← Int.ofNat_dvd_left, ← Int.ofNat_dvd_left]
      rw [← Int.ofNat_dvd_left] at hdM
      have e5 := Int.mul_ediv_add_emod x M
      have h6 := Int.dvd_trans hdM (Int.dvd_mul_right M (x / M))
      constructor
      · intro h7; rw [← e5]; exact Int.dvd_add h6 h7
      · intro h7; have := Int.dvd_sub h7 h6; rwa [show x - M * (x / M) = x % M by omega] at this
    apply Nat.dvd_antisymm
    · refine b3 _ a1 fun x hx => ?_
      obtain ⟨j, hj, rfl⟩ := List.getElem_of_mem hx
      exact (key _ _ a1).1 (a2 _ (List.mem_map.2 ⟨j, List.mem_range.2 (by omega), by simp [hj]⟩))
    · refine a3 _ b1 fun y hy => ?_
      obtain ⟨j, hj, rfl⟩ := List.mem_map.1 hy
      exact (key _ _ b1).2 (b2 _ (getD_mem (by rw [hl]; exact List.mem_range.1 hj)))
  rw [e4, hg] at h1
  have h7 : gcdA (M / (h : Int)).natAbs (remL n xs M h) * h = 1 * h := by rw [Nat.one_mul]; exact h1.symm
  exact Nat.eq_of_mul_eq_mul_right h0 h7

/-- The normal form of a normal form. -/
theorem nf_idem {q M : Int} {n : Nat} {xs : List Int} {K : Int} (hl : xs.length = n) (hq : KindOk q M) (hs : (nf q M n xs K).2.2.2.2 = 0) :
    (nf q M n xs K).2.2.1.length = n ∧ nf (nf q M n xs K).1 (nf q M n xs K).2.1 n (nf q M n xs K).2.2.1 (nf q M n xs K).2.2.2.1 = nf q M n xs K := by
  rcases nf_case (K := K) hl hq with ⟨s, hs', h, hh⟩ | ⟨g, rfl, hg, h, h1, hd⟩ | ⟨D, rfl, hD, h, h1, h2, hd, hK⟩ | ⟨h, rfl, h0, hM, hne, e, hd, hK, hg⟩
  · rw [h] at hs; exfalso; rcases hs' with rfl | rfl <;> cases hs
  · rw [h]
    refine ⟨quo_len _ _ _, ?_⟩
    show nf 0 0 n (quoL n xs g) (K / g) = _
    unfold nf
    rw [if_pos rfl, h1, if_neg (by decide), show ((1 : Nat) : Int) = 1 from rfl, quo_one (quo_len _ _ _), Int.ediv_one]
  · rw [h]
    refine ⟨quo_len _ _ _, ?_⟩
    show nf 1 0 n (quoL n xs D) (K.tdiv D) = _
    unfold nf
    rw [if_neg (by decide), if_pos rfl, h1, if_neg (by decide), show ((1 : Nat) : Int) = 1 from rfl, if_neg (by simp), h2, quo_one (quo_len _ _ _), Int.tdiv_one]
  · rw [e]
    refine ⟨rem_len _ _ _ _, ?_⟩
    show nf 2 (M / (h : Int)) n (remL n xs M h) (K % M / (h : Int)) = _
    have hM2 : 1 ≤ M := by
      rcases hq with h | h | ⟨_, h, _⟩
      · cases h
      · cases h
      · exact h
    have hh0 : (h : Int) ≠ 0 := by omega
    obtain ⟨m, rfl⟩ := hM
    have hm : 1 ≤ m := by
      rcases Int.lt_or_le m 1 with hlt | hge
      · have : (h : Int) * m ≤ (h : Int) * 0 := Int.mul_le_mul_of_nonneg_left (by omega) (by omega)
        omega
      · exact hge
    have hg2 := rem_gcd hl h0 ⟨m, rfl⟩ hd hg
    rw [Int.mul_ediv_cancel_left _ hh0] at hg2 ⊢
    have small : ∀ z : Int, (z % (h * m)) / (h : Int) % m = (z % (h * m)) / (h : Int) := fun z => by
      have m0 := Int.emod_nonneg z (show (h : Int) * m ≠ 0 by omega)
      have m1 := Int.emod_lt_of_pos z (show 0 < (h : Int) * m by omega)
      refine Int.emod_eq_of_lt (Int.ediv_nonneg m0 (by omega)) ?_
      exact Int.ediv_lt_of_lt_mul (by omega) (by rw [Int.mul_comm m]; exact m1)
    have hm1 : ¬ (1 : Int) = m := fun e => by subst e; rw [Int.mul_one] at hne; exact hne rfl
    unfold nf
    rw [if_neg (by decide), if_neg (by decide), hg2, small K, show ((1 : Nat) : Int) = 1 from rfl, if_neg (by simp [Int.emod_one]), if_neg hm1, Int.ediv_one, Int.ediv_one]
    congr 3
    apply List.map_congr_left
    intro j hj
    rw [rem_get (List.mem_range.1 hj), Int.ediv_one, small]

theorem fits_abs {x y : Int} (hx : fitsB x = true) (h : y.natAbs ≤ x.natAbs) : fitsB y = true := by
  rw [fitsB_true] at *; omega
theorem floor_abs (K g : Int) (hg : 1 ≤ g) : (K / g).natAbs ≤ K.natAbs := by
  rcases Int.lt_or_le K 0 with h | h
  · have h1 : K / g < 0 := Int.ediv_neg_of_neg_of_pos h (by omega)
    have h2 := Int.mul_ediv_add_emod K g
    have h3 := Int.emod_lt_of_pos K (show 0 < g by omega)
    have h4 : K ≤ K / g := by
      rcases Int.lt_or_le (K / g) K with h5 | h5
      · have h6 : K / g + 1 ≤ K := h5
        have h7 : g * (K / g + 1) ≤ 1 * (K / g + 1) := Int.mul_le_mul_of_nonpos_right hg (by omega)
        rw [Int.mul_add] at h7
        omega
      · exact h5
    omega
  · have h1 := Int.ediv_nonneg h (show 0 ≤ g by omega)
    have h2 := Int.ediv_le_self g h
    omega

/-- The normal form of a valid condition is valid. -/
theorem nf_valid {q M : Int} {n : Nat} {xs : List Int} {K : Int} (hl : xs.length = n) (hv : validC q M xs K = true) (hs : (nf q M n xs K).2.2.2.2 = 0) :
    validC (nf q M n xs K).1 (nf q M n xs K).2.1 (nf q M n xs K).2.2.1 (nf q M n xs K).2.2.2.1 = true := by
  obtain ⟨hvb, hk⟩ := validC_kind hv
  obtain ⟨v1, v2, v3⟩ := validB_true.1 hvb
  have quo : ∀ D : Int, ∀ z ∈ quoL n xs D, fitsB z = true := by
    intro D z hz
    obtain ⟨j, hj, rfl⟩ := List.mem_map.1 hz
    have h := v3 _ (getD_mem (xs := xs) (j := j) (by rw [hl]; exact List.mem_range.1 hj))
    exact fits_abs h (by rw [Int.natAbs_tdiv]; exact Nat.div_le_self _ _)
  rcases nf_case (K := K) hl (validC_ok hv) with ⟨s, hs', h, hh⟩ | ⟨g, rfl, hg, h, h1, hd⟩ | ⟨D, rfl, hD, h, h1, h2, hd, hK⟩ | ⟨h, rfl, h0, hM, hne, e, hd, hK, hg⟩
  · rw [h] at hs; exfalso; rcases hs' with rfl | rfl <;> cases hs
  · rw [h]
    show validC 0 0 (quoL n xs g) (K / g) = true
    unfold validC
    rw [validB_true.2 ⟨by rw [quo_len]; omega, fits_abs v2 (floor_abs K g hg), quo g⟩]
    rfl
  · rw [h]
    show validC 1 0 (quoL n xs D) (K.tdiv D) = true
    unfold validC
    rw [validB_true.2 ⟨by rw [quo_len]; omega, fits_abs v2 (by rw [Int.natAbs_tdiv]; exact Nat.div_le_self _ _), quo D⟩]
    rfl
  · rw [e]
    show validC 2 (M / (h : Int)) (remL n xs M h) (K % M / (h : Int)) = true
    have hMb : 1 ≤ M ∧ M ≤ 512 := by
      rcases hk with ⟨h, _⟩ | ⟨h, _⟩ | ⟨_, h⟩
      · cases h
      · cases h
      · exact h
    have sm : ∀ z : Int, fitsB (z % M / (h : Int)) = true := fun z => by
      have m0 := Int.emod_nonneg z (show M ≠ 0 by omega)
      have m1 := Int.emod_lt_of_pos z (show 0 < M by omega)
      have m2 := Int.ediv_nonneg m0 (show (0 : Int) ≤ h by omega)
      have m3 := Int.ediv_le_self (h : Int) m0
      rw [fitsB_true]; omega
    have hm : 1 ≤ M / (h : Int) ∧ M / (h : Int) ≤ 512 := by
      have hM' := Int.ediv_mul_cancel hM
      have m3 := Int.ediv_le_self (h : Int) (show 0 ≤ M by omega)
      refine ⟨?_, by omega⟩
      rcases Int.lt_or_le (M / (h : Int)) 1 with hlt | hge
      · have m4 := Int.ediv_nonneg (show 0 ≤ M by omega) (show (0 : Int) ≤ h by omega)
        have : M / (h : Int) = 0 := by omega
        rw [this] at hM'; omega
      · exact hge
    unfold validC
    rw [validB_true.2 ⟨by rw [rem_len]; omega, sm K, fun z hz => by obtain ⟨j, _, rfl⟩ := List.mem_map.1 hz; exact sm _⟩]
    simp [hm]
end Go.Proofs.YtkgnlloioaobiaaGreat

/-
  cond.Negate.
-/
namespace Go.Proofs.YtkgnlloioaobiaaGreat
open Go.RowKit
set_option linter.unusedVariables false
set_option linter.unusedSimpArgs false

def nfD (n : Nat) (d : CD) : Int × Int × List Int × Int × Int := nf d.q d.M n d.xs d.K
/-- The normal form of one of the conditions exceeds the limits. -/
def negBad (n : Nat) (d : CD) : Bool := decide ((nfD n d).2.2.2.2 = 0) && !validB (nfD n d).2.2.1 (nfD n d).2.2.2.1
def negOne (n : Nat) (d : CD) : List CD := if (nfD n d).2.2.2.2 = 0 then [⟨(nfD n d).1, (nfD n d).2.1, (nfD n d).2.2.1, (nfD n d).2.2.2.1⟩] else if (nfD n d).2.2.2.2 = 1 then [⟨0, 0, zeros n, 0⟩] else []
def negOut (n : Nat) (ds : List CD) : List CD := ds.flatMap (negOne n)
def negFull (n : Nat) (ds : List CD) : Bool := ds.any (negBad n) || decide (400 < (negOut n ds).length)
/-- What Negate answers. -/
def negL (q M : Int) (n : Nat) (xs : List Int) (K : Int) : List CD := if validC q M xs K = true then (if negFull n (oppL q M n xs K) = true then [] else negOut n (oppL q M n xs K)) else []
def negE (q M : Int) (n : Nat) (xs : List Int) (K : Int) : Int := if validC q M xs K = true then (if negFull n (oppL q M n xs K) = true then 3 else 0) else 1
/-- The answer is a list of conditions that the call owns, and an error. -/
def NegRet (w : World) (e : Ending) (w' : World) (n : Nat) (out : List CD) (er : Int) : Prop :=
  ∃ u els, e = .returned (.tuple #[u, .int .i64 er]) ∧ CL w.heap.size w' u els ∧ els.map CEl.d = out ∧ (∀ e ∈ els, e.n = n) ∧ Below w.heap.size w w'
theorem CL2.mono {N0 N N0' N' : Nat} {W : World} {u : Value} {els : List CEl} (h : CL2 N0 N W u els) (hN0 : N0' ≤ N0) (hN : N' ≤ N) : CL2 N0' N' W u els :=
  ⟨⟨h.own.1, h.own.2.imp id fun ⟨g, cap, cur, hv, hg, r⟩ => ⟨g, cap, cur, hv, Nat.le_trans hN hg, r⟩⟩, h.few, h.ints, fun e he => (h.rows e he).mono hN0⟩

/-- What the conditions of Negate are like before they are normalized. -/
def OppOk (n : Nat) (d : CD) : Prop := KindOk d.q d.M ∧ (-4611686018427387904 ≤ d.K ∧ d.K ≤ 4611686018427387904) ∧ (∀ x ∈ d.xs, -4611686018427387904 ≤ x ∧ x ≤ 4611686018427387904) ∧ d.xs.length = n
theorem opp_ok {q M : Int} {n : Nat} {xs : List Int} {K : Int} (hv : validC q M xs K = true) : (∀ d ∈ oppL q M n xs K, OppOk n d) ∧ (oppL q M n xs K).length ≤ 511 := by
  obtain ⟨hvb, hk⟩ := validC_kind hv
  obtain ⟨v1, v2, v3⟩ := validB_true.1 hvb
  have hx : Tame xs := fun j => valid_at hvb j
  have hK := fitsB_true.1 v2
  have hm : ∀ s : Int, s = 1 ∨ s = -1 → (∀ x ∈ mulL n s xs, -4611686018427387904 ≤ x ∧ x ≤ 4611686018427387904) ∧ (mulL n s xs).length = n := fun s hs =>
    ⟨fun x h => by have := mulL_bd hs hx x h; omega, by simp [mulL]⟩
  unfold oppL
  rcases hk with ⟨rfl, rfl⟩ | ⟨rfl, rfl⟩ | ⟨rfl, hM⟩
  · rw [if_pos rfl]
    refine ⟨fun d hd => ?_, by simp⟩
    rw [List.mem_singleton.1 hd]
    exact ⟨.inl rfl, (by dsimp only; omega), (hm (-1) (.inr rfl)).1, (hm (-1) (.inr rfl)).2⟩
  · rw [if_neg (by decide), if_pos rfl]
    refine ⟨fun d hd => ?_, by simp⟩
    rcases List.mem_cons.1 hd with rfl | hd
    · exact ⟨.inl rfl, (by dsimp only; omega), (hm 1 (.inl rfl)).1, (hm 1 (.inl rfl)).2⟩
    · rw [List.mem_singleton.1 hd]
      exact ⟨.inl rfl, (by dsimp only; omega), (hm (-1) (.inr rfl)).1, (hm (-1) (.inr rfl)).2⟩
  · rw [if_neg (by decide), if_neg (by decide)]
    refine ⟨fun d hd => ?_, by simp; omega⟩
    obtain ⟨r, hr, rfl⟩ := List.mem_map.1 hd
    have := List.mem_range.1 hr
    exact ⟨.inr (.inr ⟨rfl, hM⟩), (by dsimp only; omega), (hm 1 (.inl rfl)).1, (hm 1 (.inl rfl)).2⟩
theorem cond_opp {q M : Int} {A : Option Addr} {n c : Nat} {K : Int} {xs : List Int} (hv : validC q M xs K = true) (w : World) (hI : IntsAt w A n xs) :
    Calls Tryz.prog 99 #[condV q M A n c K] w fun e w' => CondsRet w e w' n (oppL q M n xs K) := by
  obtain ⟨hvb, hk⟩ := validC_kind hv
  have hx : Tame xs := fun j => valid_at hvb j
  have hK := fitsB_true.1 (validB_true.1 hvb).2.1
  rcases hk with ⟨rfl, rfl⟩ | ⟨rfl, rfl⟩ | ⟨rfl, hM⟩
  · exact opp_ge 0 A n c K xs hK hx w hI
  · exact opp_eq 0 A n c K xs hK hx w hI
  · exact opp_dv M A n c K xs hK hx w hI hM

theorem nf_state {q M : Int} {n : Nat} {xs : List Int} {K : Int} (hl : xs.length = n) (hq : KindOk q M) : ((nf q M n xs K).2.2.2.2 = 0 ∧ (nf q M n xs K).2.2.1.length = n ∧ (nf q M n xs K).2.1 ≤ 512) ∨ (nf q M n xs K).2.2.2.2 = 1 ∨ (nf q M n xs K).2.2.2.2 = -1 := by
  rcases nf_case (K := K) hl hq with ⟨s, hs', h, hh⟩ | ⟨g, rfl, hg, h, h1, hd⟩ | ⟨D, rfl, hD, h, h1, h2, hd, hK⟩ | ⟨h, rfl, h0, hM, hne, e, hd, hK, hg⟩
  · rw [h]; exact .inr hs'
  · rw [h]; exact .inl ⟨rfl, quo_len _ _ _, (by decide : (0 : Int) ≤ 512)⟩
  · rw [h]; exact .inl ⟨rfl, quo_len _ _ _, (by decide : (0 : Int) ≤ 512)⟩
  · rw [e]
    refine .inl ⟨rfl, rem_len _ _ _ _, ?_⟩
    rcases hq with h | h | ⟨_, h1, h2⟩
    · cases h
    · cases h
    · have := Int.ediv_le_self (h : Int) (show 0 ≤ M by omega)
      show M / (h : Int) ≤ 512
      omega
theorem out_snoc {n i : Nat} {ds : List CD} {d : CD} (h : ds[i]? = some d) : negOut n (ds.take (i + 1)) = negOut n (ds.take i) ++ negOne n d := by
  obtain ⟨hi, e⟩ := List.getElem?_eq_some_iff.1 h
  unfold negOut
  rw [List.take_succ_eq_append_getElem hi, List.flatMap_append, e]
  simp
theorem out_len (n : Nat) : ∀ ds : List CD, (negOut n ds).length ≤ ds.length
  | [] => by simp [negOut]
  | d :: ds => by
    have := out_len n ds
    unfold negOut at this ⊢
    rw [List.flatMap_cons, List.length_append]
    have h1 : (negOne n d).length ≤ 1 := by unfold negOne; split <;> (try split) <;> simp
    simp only [List.length_cons]
    omega
theorem any_take {p : CD → Bool} {ds : List CD} {i : Nat} {d : CD} (h : ds[i]? = some d) (hp : p d = true) : ds.any p = true := by
  obtain ⟨hi, e⟩ := List.getElem?_eq_some_iff.1 h
  exact List.any_eq_true.2 ⟨d, e ▸ List.getElem_mem hi, hp⟩
theorem any_none {p : CD → Bool} {ds : List CD} (h : ∀ j d, j < ds.length → ds[j]? = some d → p d = false) : ds.any p = false := by
  rw [List.any_eq_false]
  intro d hd
  obtain ⟨j, hj, rfl⟩ := List.getElem_of_mem hd
  rw [h j _ hj (List.getElem?_eq_getElem hj)]
  simp

theorem cond_neg_bad (q M : Int) (A : Option Addr) (n c : Nat) (K : Int) (xs : List Int) (hv : validC q M xs K = false) (w : World) (hI : IntsAt w A n xs) :
    Calls Tryz.prog 80 #[condV q M A n c K] w fun e w' => NegRet w e w' n [] 1 := by
  have hB := below_alloc w (.cells #[.int .i64 q, .int .i64 M, .slice A n c, .int .i64 K] 56)
  have h1 := hI.step hB
  have HV := Lib.hid hv
  clear hv
  go_enter Tryz.func80, Tryz.ntmps80
  go_wp2_with (go_at_call 84; refine (cond_valid _ _ _ _ _ _ xs _ h1).mono ?_; rintro e w1 ⟨rfl, hb⟩; rw [HV.out]; replace hB := below_step hB hb)
  go_ret2
  exact ⟨_, [], rfl, CL.nil _ _, rfl, (fun e h => nomatch h), hB⟩

set_option maxHeartbeats 8000000 in
set_option maxRecDepth 100000 in
theorem cond_neg_ok (q M : Int) (A : Option Addr) (n c : Nat) (K : Int) (xs : List Int) (hv : validC q M xs K = true) (w : World) (hI : IntsAt w A n xs) :
    Calls Tryz.prog 80 #[condV q M A n c K] w fun e w' => NegRet w e w' n (if negFull n (oppL q M n xs K) = true then [] else negOut n (oppL q M n xs K)) (if negFull n (oppL q M n xs K) = true then 3 else 0) := by
  have hB := below_alloc w (.cells #[.int .i64 q, .int .i64 M, .slice A n c, .int .i64 K] 56)
  have h1 := hI.step hB
  have B1 := CBox.new w q M A n c K
  have HO := Lib.hid (fun W (h : IntsAt W A n xs) => cond_opp (c := c) hv W h)
  obtain ⟨hok, hlen⟩ := opp_ok (n := n) hv
  obtain ⟨ds, hds⟩ : ∃ ds, oppL q M n xs K = ds := ⟨_, rfl⟩
  rw [hds] at HO hok hlen ⊢
  have HV := Lib.hid hv
  have hsm := hI.small
  have hmk := make_ints n hsm
  have HOK := Lib.hid hok
  have HLEN := Lib.hid hlen
  obtain ⟨out, hout⟩ : ∃ o, (if negFull n ds = true then [] else negOut n ds) = o := ⟨_, rfl⟩
  obtain ⟨er, her⟩ : ∃ o : Int, (if negFull n ds = true then 3 else 0) = o := ⟨_, rfl⟩
  rw [hout, her]
  have HP := Lib.hid (And.intro hout.symm her.symm)
  clear hv hI hds hok hlen hout her
  go_enter Tryz.func80, Tryz.ntmps80
  go_wp2_with (first
    | (go_at_call 84; refine (cond_valid _ _ _ _ _ _ xs _ h1).mono ?_; rintro e w1 ⟨rfl, hb⟩; rw [HV.out]; replace hB := below_step hB hb; replace h1 := h1.step hb; replace B1 := B1.step hb; have c0 := B1.c0; have c1 := B1.c1; have c2 := B1.c2; have c3 := B1.c3)
    | (go_at_call 99; refine (HO.out _ h1).mono ?_; rintro e w2 ⟨A0, k0, els0, rfl, C0, hd0, hn0, hb⟩; replace hB := below_step hB hb; replace B1 := B1.step hb; generalize hm : els0.length = m at C0 ⊢))
  clear hb h1 c0 c1 c2 c3
  have HD0 := Lib.hid (And.intro hd0 hn0)
  have l1 := B1.lt
  have HM := Lib.hid (show ds.length = m by rw [← hd0, List.length_map]; exact hm)
  have hm1 : m ≤ 511 := by have := HM.out; have := HLEN.out; omega
  clear hd0 hn0 hm
  go_loopw [4, 15] (fun u v wr => ∃ (i : Nat) (els : List CEl), i ≤ m ∧ v = .int .i64 i ∧ CL w2.heap.size wr u els ∧ els.map CEl.d = negOut n (ds.take i) ∧ (∀ e ∈ els, e.n = n) ∧ (∀ j d, j < i → ds[j]? = some d → negBad n d = false) ∧ Below w2.heap.size w2 wr) (fun _ v _ => m - (intOf v).toNat)
  case atStart => exact ⟨0, [], Nat.zero_le _, rfl, CL.nil _ _, rfl, (fun e h => nomatch h), (fun j d h => absurd h (by omega)), Below.refl _ _⟩
  case round =>
    obtain ⟨i, els, hi, rfl, hL, hd, hn, hbad, hbr⟩ := hrel
    have hlen2 : els.length ≤ i := by
      have h3 := congrArg List.length hd
      rw [List.length_map] at h3
      have h4 := out_len n (ds.take i)
      have h5 := List.length_take_le i ds
      omega
    have HD := Lib.hid (And.intro hd (And.intro hn hbad))
    have S1 := B1.below hbr l1
    have c2 := S1.c2
    have C1 := C0.step hbr
    have hNs := hbr.size
    clear hd hn hbad
    obtain ⟨A9, k9, rfl⟩ := hL.slice
    by_cases hlt : i < m
    · obtain ⟨b, off, e, rfl, hblt, hej, hmem, hcs, hin⟩ := C1.at hlt
      obtain ⟨x0, x1, x2, x3⟩ := hcs
      obtain ⟨eq, eM, eA, en, ec, eK, exs⟩ := e
      simp only at x0 x1 x2 x3 hin
      have hdj : ds[i]? = some ⟨eq, eM, exs, eK⟩ := by rw [← HD0.out.1, List.getElem?_map, hej]; rfl
      have hdm : (⟨eq, eM, exs, eK⟩ : CD) ∈ ds := by obtain ⟨h8, h9⟩ := List.getElem?_eq_some_iff.1 hdj; exact h9 ▸ List.getElem_mem h8
      obtain ⟨ok1, ok2, ok3, ok4⟩ := HOK.out _ hdm
      obtain rfl : en = n := HD0.out.2 _ hmem
      have hq1 : (i : Int) < m := by omega
      have HN := Lib.hid (fun W (h : IntsAt W eA en exs) => wide_normal eq eM eA en ec eK exs ok1 ok2 ok3 W h)
      have hst := nf_state (K := eK) ok4 ok1
      have hbd : negBad en ⟨eq, eM, exs, eK⟩ = (decide ((nf eq eM en exs eK).2.2.2.2 = 0) && !validB (nf eq eM en exs eK).2.2.1 (nf eq eM en exs eK).2.2.2.1) := rfl
      have hone : negOne en ⟨eq, eM, exs, eK⟩ = if (nf eq eM en exs eK).2.2.2.2 = 0 then [⟨(nf eq eM en exs eK).1, (nf eq eM en exs eK).2.1, (nf eq eM en exs eK).2.2.1, (nf eq eM en exs eK).2.2.2.1⟩] else if (nf eq eM en exs eK).2.2.2.2 = 1 then [⟨0, 0, zeros en, 0⟩] else [] := rfl
      obtain ⟨r, hr⟩ : ∃ r, nf eq eM en exs eK = r := ⟨_, rfl⟩
      rw [hr] at HN hst hbd hone
      have HJ := Lib.hid hdj
      have y1 := hin.step (below_alloc wr (.cells #[.int .i64 eq, .int .i64 eM, .slice eA en ec, .int .i64 eK] 56))
      have L1 := hL.step (below_alloc wr (.cells #[.int .i64 eq, .int .i64 eM, .slice eA en ec, .int .i64 eK] 56))
      have S2 := S1.alloc (.cells #[.int .i64 eq, .int .i64 eM, .slice eA en ec, .int .i64 eK] 56)
      have hbr1 := hbr.trans ((below_alloc wr (.cells #[.int .i64 eq, .int .i64 eM, .slice eA en ec, .int .i64 eK] 56)).mono hNs)
      clear hdj hdm hr ok1 ok2 ok3 ok4 hej hmem hin c2
      rcases hst with ⟨hs, hX, hM5⟩ | hs | hs
      · rw [if_pos hs] at hone
        cases hvb : validB r.2.2.1 r.2.2.2.1
        · rw [hvb, hs] at hbd
          have HF := Lib.hid (show negFull en ds = true by unfold negFull; rw [any_take HJ.out hbd]; rfl)
          have HV5 := Lib.hid hvb
          clear hone hbd hvb
          go_wp2_with (first
            | (go_at_call 100; refine (HN.out _ y1).mono ?_; rintro e w4 ⟨A4, n4, c4, rfl, I4, hb4, O4⟩; have b5 := below_alloc w4 (.cells #[.int .i64 r.1, .int .i64 r.2.1, .slice A4 n4 c4, .int .i64 r.2.2.2.1] 56); replace I4 := I4.step b5; have X7 := CBox.new w4 r.1 r.2.1 A4 n4 c4 r.2.2.2.1; have d0 := X7.c0; have d1 := X7.c1; have d2 := X7.c2; have d3 := X7.c3; have hbr5 := (hbr1.trans (hb4.mono hbr1.size)).trans (b5.mono (Nat.le_trans hbr1.size hb4.size)))
            | (go_at_call 101; refine (wide_fits _ _ _ _ _ _ _ hM5 _ I4).mono ?_; rintro e w5 ⟨rfl, hb6⟩; rw [HV5.out]; replace hbr5 := hbr5.trans (hb6.mono hbr5.size)))
          have hEnd := below_step hB hbr5
          go_ret2
          rw [HP.out.1, HP.out.2, HF.out]
          exact ⟨_, [], rfl, CL.nil _ _, rfl, (fun e h => nomatch h), hEnd⟩
        · rw [hvb, hs] at hbd
          have HB := Lib.hid (And.intro hone hbd)
          have HV5 := Lib.hid hvb
          clear hone hbd hvb
          go_wp2_with (first
            | (go_at_call 100; refine (HN.out _ y1).mono ?_; rintro e w4 ⟨A4, n4, c4, rfl, I4, hb4, O4⟩; obtain rfl : n4 = en := I4.len.symm.trans hX; have b5 := below_alloc w4 (.cells #[.int .i64 r.1, .int .i64 r.2.1, .slice A4 n4 c4, .int .i64 r.2.2.2.1] 56); have R4 := ((FreshRow.ok O4 hbr1.size).step b5); replace I4 := I4.step b5; have X7 := CBox.new w4 r.1 r.2.1 A4 n4 c4 r.2.2.2.1; have d0 := X7.c0; have d1 := X7.c1; have d2 := X7.c2; have d3 := X7.c3; have L5 := (L1.step hb4).step b5; have hbr5 := (hbr1.trans (hb4.mono hbr1.size)).trans (b5.mono (Nat.le_trans hbr1.size hb4.size)))
            | (go_at_call 101; refine (wide_fits _ _ _ _ _ _ _ hM5 _ I4).mono ?_; rintro e w5 ⟨rfl, hb6⟩; rw [HV5.out]; have b7 := below_alloc w5 (.cells #[.int .i64 r.1, .int .i64 r.2.1, .slice A4 n4 c4, .int .i64 r.2.2.2.1] 56); have G7 := heap_alloc_new w5 (.cells #[.int .i64 r.1, .int .i64 r.2.1, .slice A4 n4 c4, .int .i64 r.2.2.2.1] 56); replace hbr5 := hbr5.trans (hb6.mono hbr5.size); replace hbr5 := hbr5.trans (b7.mono hbr5.size); have L7 := (L5.step hb6).step b7; have I7 := (I4.step hb6).step b7; have R7 := (R4.step hb6).step b7; replace X7 := X7.step hb6; have d0 := X7.c0; have d1 := X7.c1; have d2 := X7.c2; have d3 := X7.c3)
            | (at_builtin; refine wpList_append_cond rfl _ _ 34 rfl rfl rfl L7 w5.heap.size ⟨r.1, r.2.1, A4, n4, c4, r.2.2.2.1, r.2.2.1⟩ rfl G7 I7 R7 (by omega) hbr5.size ?_; intro g8 cap8 w8 L8 gr8 hb8; replace hbr5 := hbr5.trans hb8))
          go_roundw
          case rel => exact ⟨i + 1, els ++ [⟨r.1, r.2.1, A4, n4, c4, r.2.2.2.1, r.2.2.1⟩], by omega, by go_num, L8, by rw [out_snoc HJ.out, HB.out.1, List.map_append, HD.out.1]; rfl, (fun e he => by
            rcases List.mem_append.1 he with h | h
            · exact HD.out.2.1 e h
            · rw [List.mem_singleton.1 h]), (fun j d hj hjd => by
            rcases Nat.lt_or_eq_of_le (Nat.le_of_lt_succ hj) with h | rfl
            · exact HD.out.2.2 j d h hjd
            · rw [HJ.out] at hjd; cases hjd; exact HB.out.2), hbr5⟩
          case measure => simp [intOf]; omega
      · rw [if_neg (by rw [hs]; decide), if_pos hs] at hone
        rw [hs] at hbd
        have HB := Lib.hid (And.intro hone hbd)
        clear hone hbd
        go_wp2_with (first
          | (go_at_call 100; refine (HN.out _ y1).mono ?_; rintro e w4 ⟨A4, n4, c4, rfl, I4, hb4, O4⟩; have b5 := below_alloc w4 (.cells #[.int .i64 r.1, .int .i64 r.2.1, .slice A4 n4 c4, .int .i64 r.2.2.2.1] 56); have X7 := CBox.new w4 r.1 r.2.1 A4 n4 c4 r.2.2.2.1; have L5 := (L1.step hb4).step b5; have hbr5 := (hbr1.trans (hb4.mono hbr1.size)).trans (b5.mono (Nat.le_trans hbr1.size hb4.size)); have S5 := (S2.step hb4).step b5; have c2 := S5.c2; have b1 := below_alloc w4 (.cells #[.int .i64 0, .int .i64 0, .slice (some ⟨w4.heap.size + 1, 0, none⟩) en en, .int .i64 0] 56); have b2 := below_alloc (w4.alloc (.cells #[.int .i64 0, .int .i64 0, .slice (some ⟨w4.heap.size + 1, 0, none⟩) en en, .int .i64 0] 56)) (.cells ((zeros en).map (Value.int .i64)).toArray 3); have b3 := below_alloc ((w4.alloc (.cells #[.int .i64 0, .int .i64 0, .slice (some ⟨w4.heap.size + 1, 0, none⟩) en en, .int .i64 0] 56)).alloc (.cells ((zeros en).map (Value.int .i64)).toArray 3)) (.cells #[.int .i64 0, .int .i64 0, .slice (some ⟨w4.heap.size + 1, 0, none⟩) en en, .int .i64 0] 56); have L7 := (((L1.step hb4).step b1).step b2).step b3; have OZ := (OwnRow.new (w4.alloc (.cells #[.int .i64 0, .int .i64 0, .slice (some ⟨w4.heap.size + 1, 0, none⟩) en en, .int .i64 0] 56)) (zeros en) en (zeros_len en)).step b3; rw [World.size_alloc] at OZ; have hbr7 := hbr1.trans (hb4.mono hbr1.size); replace hbr7 := hbr7.trans (b1.mono hbr7.size); replace hbr7 := hbr7.trans (b2.mono hbr7.size); replace hbr7 := hbr7.trans (b3.mono hbr7.size); have I7 := OZ.ints hsm (zeros_wf en); have hN4 := Nat.le_trans hbr1.size hb4.size; have R7 := FreshRow.ok (N := w4.heap.size + 1) (N' := w2.heap.size) (.inr ⟨_, rfl, Nat.le_refl _, OZ⟩) (Nat.le_trans hN4 (Nat.le_succ _)); have G7 := heap_alloc_new ((w4.alloc (.cells #[.int .i64 0, .int .i64 0, .slice (some ⟨w4.heap.size + 1, 0, none⟩) en en, .int .i64 0] 56)).alloc (.cells ((zeros en).map (Value.int .i64)).toArray 3)) (.cells #[.int .i64 0, .int .i64 0, .slice (some ⟨w4.heap.size + 1, 0, none⟩) en en, .int .i64 0] 56); simp only [World.size_alloc] at G7; have hN7 := hbr7.size)
          | (at_builtin; refine wpList_append_cond rfl _ _ 34 rfl rfl rfl L7 (w4.heap.size + 1 + 1) ⟨0, 0, some ⟨w4.heap.size + 1, 0, none⟩, en, en, 0, zeros en⟩ rfl G7 I7 R7 (by omega) hN7 ?_; intro g8 cap8 w8 L8 gr8 hb8; replace hbr7 := hbr7.trans hb8))
        go_roundw
        case rel => exact ⟨i + 1, els ++ [⟨0, 0, some ⟨w4.heap.size + 1, 0, none⟩, en, en, 0, zeros en⟩], by omega, by go_num, L8, by rw [out_snoc HJ.out, HB.out.1, List.map_append, HD.out.1]; rfl, (fun e he => by
          rcases List.mem_append.1 he with h | h
          · exact HD.out.2.1 e h
          · rw [List.mem_singleton.1 h]), (fun j d hj hjd => by
          rcases Nat.lt_or_eq_of_le (Nat.le_of_lt_succ hj) with h | rfl
          · exact HD.out.2.2 j d h hjd
          · rw [HJ.out] at hjd; cases hjd; exact HB.out.2), hbr7⟩
        case measure => simp [intOf]; omega
      · rw [if_neg (by rw [hs]; decide), if_neg (by rw [hs]; decide)] at hone
        rw [hs] at hbd
        have HB := Lib.hid (And.intro hone hbd)
        clear hone hbd
        go_wp2_with (go_at_call 100; refine (HN.out _ y1).mono ?_; rintro e w4 ⟨A4, n4, c4, rfl, I4, hb4, O4⟩; have b5 := below_alloc w4 (.cells #[.int .i64 r.1, .int .i64 r.2.1, .slice A4 n4 c4, .int .i64 r.2.2.2.1] 56); have L5 := (L1.step hb4).step b5; have hbr5 := (hbr1.trans (hb4.mono hbr1.size)).trans (b5.mono (Nat.le_trans hbr1.size hb4.size)))
        go_roundw
        case rel => exact ⟨i + 1, els, by omega, by go_num, L5, by rw [out_snoc HJ.out, HB.out.1, List.append_nil]; exact HD.out.1, HD.out.2.1, (fun j d hj hjd => by
          rcases Nat.lt_or_eq_of_le (Nat.le_of_lt_succ hj) with h | rfl
          · exact HD.out.2.2 j d h hjd
          · rw [HJ.out] at hjd; cases hjd; exact HB.out.2), hbr5⟩
        case measure => simp [intOf]; omega
    · obtain rfl : i = m := by omega
      have hC := hL.conds.2
      have hall : negOut n (ds.take i) = negOut n ds := by rw [List.take_of_length_le (by rw [HM.out]; exact Nat.le_refl _)]
      have HA := Lib.hid (And.intro (show ds.any (negBad n) = false from any_none fun j d hj => HD.out.2.2 j d (by rw [← HM.out]; exact hj)) (show els.length = (negOut n ds).length by rw [← hall, ← HD.out.1, List.length_map]))
      have hge : ¬ ((i : Int) < i) := by omega
      have hEnd := below_step hB hbr
      have HALL := Lib.hid hall
      clear hall
      by_cases h4 : 400 < els.length
      · have HF := Lib.hid (show negFull n ds = true by unfold negFull; rw [HA.out.1, ← HA.out.2]; simpa using h4)
        have h4i : (400 : Int) < (els.length : Int) := by omega
        go_wp2
        go_ret2
        rw [HP.out.1, HP.out.2, HF.out]
        exact ⟨_, [], rfl, CL.nil _ _, rfl, (fun e h => nomatch h), hEnd⟩
      · have HF := Lib.hid (show negFull n ds = false by unfold negFull; rw [HA.out.1, ← HA.out.2]; simpa using h4)
        have h4i : ¬ (400 : Int) < (els.length : Int) := by omega
        have hL2 := hL.mono (show w.heap.size ≤ w2.heap.size by omega) (show w.heap.size ≤ w2.heap.size by omega)
        go_wp2
        go_ret2
        rw [HP.out.1, HP.out.2, HF.out]
        exact ⟨_, els, rfl, hL2, by rw [HD.out.1, HALL.out]; rfl, HD.out.2.1, hEnd⟩

/-- cond.Negate. -/
theorem cond_neg (q M : Int) (A : Option Addr) (n c : Nat) (K : Int) (xs : List Int) (w : World) (hI : IntsAt w A n xs) :
    Calls Tryz.prog 80 #[condV q M A n c K] w fun e w' => NegRet w e w' n (negL q M n xs K) (negE q M n xs K) := by
  unfold negL negE
  cases hv : validC q M xs K
  · exact cond_neg_bad q M A n c K xs hv w hI
  · exact cond_neg_ok q M A n c K xs hv w hI
end Go.Proofs.YtkgnlloioaobiaaGreat

/-
  Contracts for the orders of lists of integers: cmp.Compare, slices.Compare, and the reference's Order.
-/
namespace Go.Proofs.YtkgnlloioaobiaaGreat
open Go.RowKit
set_option linter.unusedVariables false
set_option linter.unusedSimpArgs false

def cmpI (x y : Int) : Int := if x < y then -1 else if y < x then 1 else 0
def ordL : List Int → List Int → Int
  | x :: xs, y :: ys => if x < y then -1 else if y < x then 1 else ordL xs ys
  | _, _ => 0

theorem ord_skip : ∀ (i : Nat) (xs ys : List Int), xs.length = ys.length → i ≤ xs.length → (∀ j, j < i → xs[j]?.getD 0 = ys[j]?.getD 0) → ordL xs ys = ordL (xs.drop i) (ys.drop i)
  | 0, _, _, _, _, _ => rfl
  | i + 1, [], _, _, hi, _ => by simp at hi
  | i + 1, _ :: _, [], hl, _, _ => by simp at hl
  | i + 1, x :: xs, y :: ys, hl, hi, h => by
    have h0 := h 0 (by omega)
    simp at h0
    subst h0
    have := ord_skip i xs ys (by simpa using hl) (by simpa using hi) (fun j hj => by have := h (j + 1) (by omega); simpa using this)
    simpa [ordL] using this

theorem ord_at {n i : Nat} {xs ys : List Int} (hl : xs.length = n) (hl' : ys.length = n) (hi : i < n) (h : ∀ j, j < i → xs[j]?.getD 0 = ys[j]?.getD 0) :
    ordL xs ys = if xs[i]?.getD 0 < ys[i]?.getD 0 then -1 else if ys[i]?.getD 0 < xs[i]?.getD 0 then 1 else ordL (xs.drop (i + 1)) (ys.drop (i + 1)) := by
  rw [ord_skip i xs ys (by omega) (by omega) h, List.drop_eq_getElem_cons (by omega : i < xs.length), List.drop_eq_getElem_cons (by omega : i < ys.length)]
  simp [ordL, show i < xs.length by omega, show i < ys.length by omega]

theorem ord_end {n : Nat} {xs ys : List Int} (hl : xs.length = n) (hl' : ys.length = n) (h : ∀ j, j < n → xs[j]?.getD 0 = ys[j]?.getD 0) : ordL xs ys = 0 := by
  rw [ord_skip n xs ys (by omega) (by omega) h, List.drop_eq_nil_of_le (by omega)]; rfl

theorem ret_i64 {a b : Int} (h : a = b) : Ending.returned (.int .i64 a) = .returned (.int .i64 b) := by rw [h]

theorem is_nan (x : Int) (w : World) : Calls Tryz.prog 144 #[.int .i64 x] w fun e w' => e = .returned (.bool false) ∧ w = w' := by
  go_enter Tryz.func144, Tryz.ntmps144
  go_wp2
  go_ret
  exact ⟨ret_bool (by simp), rfl⟩

theorem cmp_compare (x y : Int) (w : World) : Calls Tryz.prog 115 #[.int .i64 x, .int .i64 y] w fun e w' => e = .returned (.int .i64 (cmpI x y)) ∧ w = w' := by
  rcases (show x < y ∨ (¬ x < y ∧ y < x) ∨ (¬ x < y ∧ ¬ y < x) by omega) with h | ⟨h1, h⟩ | ⟨h1, h⟩
  all_goals
    go_enter Tryz.func115, Tryz.ntmps115
    go_wp2_with (go_at_call 144; refine (is_nan _ _).mono ?_; rintro e w' ⟨rfl, rfl⟩)
    go_ret
    exact ⟨ret_i64 (by unfold cmpI; (repeat' split) <;> omega), rfl⟩

theorem slices_compare (w : World) (A A' : Option Addr) (n c c' : Nat) (xs ys : List Int) (h : IntsAt w A n xs) (h' : IntsAt w A' n ys) :
    Calls Tryz.prog 117 #[.slice A n c, .slice A' n c'] w fun e w' => e = .returned (.int .i64 (ordL xs ys)) ∧ w = w' := by
  have HL := Lib.hid h.len
  have HL' := Lib.hid h'.len
  have hsm := h.small
  go_enter Tryz.func117, Tryz.ntmps117
  go_wp2
  go_loop [11] (fun v => ∃ i : Nat, i ≤ n ∧ v = .int .i64 i ∧ ∀ j, j < i → xs[j]?.getD 0 = ys[j]?.getD 0) (fun v => n - (intOf v).toNat)
  case atStart => exact ⟨0, Nat.zero_le _, rfl, fun j hj => absurd hj (by omega)⟩
  case round =>
    obtain ⟨i, hi, rfl, hg⟩ := hrel
    have HG := Lib.hid hg
    clear hg
    by_cases hlt : i < n
    · obtain ⟨b, off, rfl, hb, hc⟩ := h.cells (by omega)
      obtain ⟨b', off', rfl, hb', hc'⟩ := h'.cells (by omega)
      have hcell := hc i hlt
      have hcell' := hc' i hlt
      clear hc hc'
      have HO := Lib.hid (ord_at HL.out HL'.out hlt HG.out)
      rcases (show xs[i]?.getD 0 < ys[i]?.getD 0 ∨ ys[i]?.getD 0 < xs[i]?.getD 0 ∨ xs[i]?.getD 0 = ys[i]?.getD 0 by omega) with hx | hx | hx
      · have HX : RowKit.Hid (cmpI (xs[i]?.getD 0) (ys[i]?.getD 0) = -1) := Lib.hid (by unfold cmpI; rw [if_pos hx])
        have HV := Lib.hid (show ordL xs ys = -1 by rw [HO.out, if_pos hx])
        clear hx
        go_wp2_with (go_at_call 115; refine (cmp_compare _ _ _).mono ?_; rintro e w' ⟨rfl, rfl⟩; rw [HX.out])
        go_ret
        exact ⟨ret_i64 HV.out.symm, rfl⟩
      · have HX : RowKit.Hid (cmpI (xs[i]?.getD 0) (ys[i]?.getD 0) = 1) := Lib.hid (by unfold cmpI; rw [if_neg (by omega), if_pos hx])
        have HV := Lib.hid (show ordL xs ys = 1 by rw [HO.out, if_neg (by omega), if_pos hx])
        clear hx
        go_wp2_with (go_at_call 115; refine (cmp_compare _ _ _).mono ?_; rintro e w' ⟨rfl, rfl⟩; rw [HX.out])
        go_ret
        exact ⟨ret_i64 HV.out.symm, rfl⟩
      · have HE := Lib.hid hx
        have HX : RowKit.Hid (cmpI (xs[i]?.getD 0) (ys[i]?.getD 0) = 0) := Lib.hid (by unfold cmpI; rw [if_neg (by omega), if_neg (by omega)])
        clear hx
        go_wp2_with (go_at_call 115; refine (cmp_compare _ _ _).mono ?_; rintro e w' ⟨rfl, rfl⟩; rw [HX.out])
        go_round
        case rel => exact ⟨i + 1, by omega, by go_num, fun j hj => by
          rcases Nat.lt_or_eq_of_le (Nat.le_of_lt_succ hj) with h1 | h1
          · exact HG.out j h1
          · exact h1 ▸ HE.out⟩
        case measure => simp [intOf]; omega
    · obtain rfl : i = n := by omega
      have HV := Lib.hid (ord_end HL.out HL'.out HG.out)
      go_wp2
      go_ret
      exact ⟨ret_i64 HV.out.symm, rfl⟩
end Go.Proofs.YtkgnlloioaobiaaGreat

/-
  The reference's Order.
-/
namespace Go.Proofs.YtkgnlloioaobiaaGreat
open Go.RowKit
set_option linter.unusedVariables false
set_option linter.unusedSimpArgs false

theorem ref_order (w : World) (A A' : Option Addr) (n c c' : Nat) (xs ys : List Int) (h : IntsAt w A n xs) (h' : IntsAt w A' n ys) :
    Calls Tryz.prog 130 #[.slice A n c, .slice A' n c'] w fun e w' => e = .returned (.int .i64 (ordL xs ys)) ∧ ∃ k, w' = w.drewN k := by
  have HL := Lib.hid h.len
  have HL' := Lib.hid h'.len
  have hsm := h.small
  go_enter Tryz.func130, Tryz.ntmps130
  go_wp2
  go_loopw [8] (fun v wr => ∃ i k : Nat, i ≤ n ∧ v = .int .i64 i ∧ (∀ j, j < i → xs[j]?.getD 0 = ys[j]?.getD 0) ∧ wr = w.drewN k) (fun v _ => n - (intOf v).toNat)
  case atStart => exact ⟨0, 0, Nat.zero_le _, rfl, fun j hj => absurd hj (by omega), rfl⟩
  case round =>
    obtain ⟨i, k, hi, rfl, hg, rfl⟩ := hrel
    have HG := Lib.hid hg
    clear hg
    by_cases hlt : i < n
    · obtain ⟨b, off, rfl, hb, hc⟩ := h.cells (by omega)
      obtain ⟨b', off', rfl, hb', hc'⟩ := h'.cells (by omega)
      have hcell := hc i hlt
      have hcell' := hc' i hlt
      clear hc hc'
      have HO := Lib.hid (ord_at HL.out HL'.out hlt HG.out)
      rcases (show xs[i]?.getD 0 < ys[i]?.getD 0 ∨ ys[i]?.getD 0 < xs[i]?.getD 0 ∨ xs[i]?.getD 0 = ys[i]?.getD 0 by omega) with hx | hx | hx
      · have HV := Lib.hid (show ordL xs ys = -1 by rw [HO.out, if_pos hx])
        go_wp2
        go_quiet (fail)
        go_wp2
        go_ret
        exact ⟨ret_i64 HV.out.symm, by first | exact ⟨_, rfl⟩ | (simp only [World.drewN_drewN]; exact ⟨_, rfl⟩)⟩
      · have HV := Lib.hid (show ordL xs ys = 1 by rw [HO.out, if_neg (by omega), if_pos hx])
        have hx1 : ys[i]?.getD 0 ≤ xs[i]?.getD 0 := by omega
        go_wp2
        go_quiet (fail)
        go_wp2
        go_quiet (fail)
        go_wp2
        go_ret
        exact ⟨ret_i64 HV.out.symm, by first | exact ⟨_, rfl⟩ | (simp only [World.drewN_drewN]; exact ⟨_, rfl⟩)⟩
      · have HE := Lib.hid hx
        rw [hx] at hcell
        clear hx
        go_wp2
        go_quiet (fail)
        go_wp2
        go_quiet (fail)
        go_wp2
        go_roundw
        case rel => exact ⟨i + 1, _, by omega, by go_num, (fun j hj => by
          rcases Nat.lt_or_eq_of_le (Nat.le_of_lt_succ hj) with h1 | h1
          · exact HG.out j h1
          · exact h1 ▸ HE.out), by first | rfl | (simp only [World.drewN_drewN]; rfl)⟩
        case measure => simp [intOf]; omega
    · obtain rfl : i = n := by omega
      have HV := Lib.hid (ord_end HL.out HL'.out HG.out)
      go_wp2
      go_ret
      exact ⟨ret_i64 HV.out.symm, k, rfl⟩
end Go.Proofs.YtkgnlloioaobiaaGreat

/-
  Add and Sub of the reference of package lin.
-/
namespace Go.Proofs.YtkgnlloioaobiaaGreat
open Go.RowKit
set_option linter.unusedVariables false
set_option linter.unusedSimpArgs false

def sE (s : Int) (xs : List Int) (K : Int) (ys : List Int) (L : Int) : Int := if pairErr xs K ys L = 0 then (if validB (mixL xs.length 1 xs s ys) (1 * K + s * L) = true then 0 else 3) else pairErr xs K ys L
def sX (s : Int) (xs : List Int) (K : Int) (ys : List Int) (L : Int) : List Int := if pairErr xs K ys L = 0 then (if validB (mixL xs.length 1 xs s ys) (1 * K + s * L) = true then mixL xs.length 1 xs s ys else []) else []
def sK (s : Int) (xs : List Int) (K : Int) (ys : List Int) (L : Int) : Int := if pairErr xs K ys L = 0 then (if validB (mixL xs.length 1 xs s ys) (1 * K + s * L) = true then 1 * K + s * L else 0) else 0
section
variable {s : Int} {xs : List Int} {K : Int} {ys : List Int} {L : Int} {n : Nat}
theorem s_err (h : pairErr xs K ys L ≠ 0) : sE s xs K ys L = pairErr xs K ys L ∧ sX s xs K ys L = [] ∧ sK s xs K ys L = 0 := by
  unfold sE sX sK; rw [if_neg h, if_neg h, if_neg h]; exact ⟨rfl, rfl, rfl⟩
theorem s_bad (h : pairErr xs K ys L = 0) (hn : xs.length = n) (hv : validB (mixL n 1 xs s ys) (1 * K + s * L) = false) : sE s xs K ys L = 3 ∧ sX s xs K ys L = [] ∧ sK s xs K ys L = 0 := by
  unfold sE sX sK; rw [hn, if_pos h, if_pos h, if_pos h, hv]; exact ⟨rfl, rfl, rfl⟩
theorem s_ok (h : pairErr xs K ys L = 0) (hn : xs.length = n) (hv : validB (mixL n 1 xs s ys) (1 * K + s * L) = true) : sE s xs K ys L = 0 ∧ sX s xs K ys L = mixL n 1 xs s ys ∧ sK s xs K ys L = 1 * K + s * L := by
  unfold sE sX sK; rw [hn, if_pos h, if_pos h, if_pos h, hv]; exact ⟨rfl, rfl, rfl⟩
theorem valid_tame (h : validB xs K = true) : Tame xs := valid_at h
theorem valid_k (h : validB xs K = true) : -1048576 ≤ K ∧ K ≤ 1048576 := fitsB_true.1 (validB_true.1 h).2.1
end

end Go.Proofs.YtkgnlloioaobiaaGreat

/-
  Add and Sub of package lin.
-/
namespace Go.Proofs.YtkgnlloioaobiaaGreat
open Go.RowKit
set_option linter.unusedVariables false
set_option linter.unusedSimpArgs false

/-- A function's answer is an expression, in memory of its own, and an error. -/
def RetF (w : World) (e : Ending) (w' : World) (ys : List Int) (K err : Int) : Prop :=
  ∃ A n c, e = .returned (.tuple #[.agg #[.slice A n c, .int .i64 K], .int .i64 err]) ∧ IntsAt w' A n ys ∧ Below w.heap.size w w' ∧ (n = 0 ∨ ∃ g, A = some ⟨g, 0, none⟩ ∧ w.heap.size ≤ g)
theorem RetF.lin {w : World} {e : Ending} {w' : World} {ys : List Int} {K err : Int} (h : RetF w e w' ys K err) : LinRet w e w' ys K err := by
  obtain ⟨A, n, c, h1, h2, h3, _⟩ := h
  exact ⟨A, n, c, h1, h2, h3⟩
theorem RetO.f {w : World} {e : Ending} {w' : World} {ys : List Int} {K err : Int} (h : RetO w e w' ys K err) : RetF w e w' ys K err := by
  obtain ⟨A, n, c, h1, h2, h3, h4⟩ := h
  exact ⟨A, n, c, h1, h2, h3, h4.imp id fun ⟨g, a, b, _⟩ => ⟨g, a, b⟩⟩
theorem RetF.o_nil {w : World} {e : Ending} {w' : World} {K err : Int} (h : RetF w e w' [] K err) : RetO w e w' [] K err := h.lin.o_nil
theorem ret_f {A : Option Addr} {n c : Nat} {K err : Int} {w w' : World} {ys : List Int} {K' err' : Int} (h1 : err' = err) (h2 : K' = K) (hI : IntsAt w' A n ys) (hb : Below w.heap.size w w') (hf : n = 0 ∨ ∃ g, A = some ⟨g, 0, none⟩ ∧ w.heap.size ≤ g) :
    RetF w (.returned (.tuple #[.agg #[.slice A n c, .int .i64 K], .int .i64 err])) w' ys K' err' := by
  subst h1; subst h2; exact ⟨A, n, c, rfl, hI, hb, hf⟩
theorem ints_far {w : World} {A : Option Addr} {n : Nat} {xs : List Int} (h : IntsAt w A n xs) {b : Nat} (hf : n = 0 ∨ ∃ g, A = some ⟨g, 0, none⟩ ∧ b ≠ g) (u v : Value) : IntsAt ((w.setCell ⟨b, 0, none⟩ u).setCell ⟨b, 1, none⟩ v) A n xs := by
  rcases hf with rfl | ⟨g, rfl, hg⟩
  · exact ⟨h.len, h.small, h.wf, fun hn => absurd hn (by omega)⟩
  · exact ints_store2 h rfl hg u v

/-- What the operation on two numbers answers. -/
def comb (s x y : Int) : Int := 1 * x + s * y
theorem comb_bd {s x y : Int} (hs : s = 1 ∨ s = -1) (hx : -1048576 ≤ x ∧ x ≤ 1048576) (hy : -1048576 ≤ y ∧ y ≤ 1048576) : -9223372036854775808 ≤ comb s x y ∧ comb s x y ≤ 9223372036854775807 := by
  unfold comb; rcases hs with rfl | rfl <;> omega

end Go.Proofs.YtkgnlloioaobiaaGreat

/-
  lin.Compare.
-/
namespace Go.Proofs.YtkgnlloioaobiaaGreat
open Go.RowKit
set_option linter.unusedVariables false
set_option linter.unusedSimpArgs false

/-- The order of two expressions of the same length. -/
def ordE (xs : List Int) (K : Int) (ys : List Int) (L : Int) : Int := if ordL xs ys = 0 then cmpI K L else ordL xs ys

end Go.Proofs.YtkgnlloioaobiaaGreat

/-
  append of a slice of integers onto a row that the call owns.
-/
namespace Go.Proofs.YtkgnlloioaobiaaGreat
open Go.RowKit
set_option linter.unusedVariables false
set_option maxRecDepth 100000
set_option linter.unusedSimpArgs false

def vals (xs : List Int) : List Value := xs.map (Value.int .i64)
theorem vals_len (xs : List Int) : (vals xs).length = xs.length := by simp [vals]
theorem vals_app (xs ys : List Int) : vals (xs ++ ys) = vals xs ++ vals ys := by simp [vals]

theorem append_none_any (w : World) (base : Nat) (t ty e : TypeId) (i : TypeInfo) (size : Nat) (ht : Tryz.prog.underlying t = some (.slice e)) (hi : Tryz.prog.info? e = some i)
    (v : Value) (n : Nat) (xs : List Value) (c : Nat) (hown : w.ownsRow base e size v n xs) :
    (Builtin.append_ #[t, t] ty #[v, .slice none 0 c]).run Tryz.prog w = .ok v w := by
  rcases hown.2 with ⟨rfl, rfl⟩ | ⟨g, cap, cur, rfl, _, _, hnc, _⟩
  · simp [Builtin.append_, run_underlying ht, sizeOf, typeInfo, hi, Builtin.lenOf, Builtin.firstCells]
  · simp [Builtin.append_, run_underlying ht, sizeOf, typeInfo, hi, Builtin.lenOf, Builtin.firstCells, hnc, storeCells]

theorem append_ints (w : World) (B : Nat) (ty : TypeId) (v : Value) (n : Nat) (xs : List Value) (hown : w.ownsRow B 3 1 v n xs) (A : Option Addr) (m c : Nat) (ys : List Int) (hI : IntsAt w A m ys) (hnm : n + m ≤ 17592186044416) (hB : B ≤ w.heap.size) :
    ∃ v' w', (Builtin.append_ #[38, 38] ty #[v, .slice A m c]).run Tryz.prog w = .ok v' w' ∧ w'.ownsRow B 3 1 v' (n + m) (xs ++ vals ys) ∧ w.grownBy w' v.ownBlock ∧ (v'.ownBlock = v.ownBlock ∨ v'.ownBlock = some w.heap.size ∨ v'.ownBlock = none) := by
  obtain ⟨i0, hi0, hz0, hz1, hz2⟩ := info_parts infoInt
  have hlen := hI.len
  cases A with
  | none =>
    have hm0 : m = 0 := by
      rcases Nat.eq_zero_or_pos m with h | h
      · exact h
      · obtain ⟨b, off, e, _⟩ := hI.cells h
        cases e
    subst hm0
    have hy : ys = [] := List.eq_nil_of_length_eq_zero hlen
    subst hy
    refine ⟨v, w, append_none_any w B 38 ty 3 i0 1 Tryz.underlying38 hi0 v n xs c hown, by simpa [vals] using hown, ⟨rfl, rfl, rfl, Nat.le_refl _, fun _ _ _ => rfl⟩, .inl rfl⟩
  | some ad =>
    have hnews : ∀ j u, (vals ys)[j]? = some u → w.cell? (ad.add j) = some u := by
      intro j u hu
      unfold vals at hu
      simp only [List.getElem?_map, Option.map_eq_some_iff] at hu
      obtain ⟨x, hx, rfl⟩ := hu
      have hj : j < m := by have := (List.getElem?_eq_some_iff.1 hx).1; omega
      obtain ⟨b, off, e, _, hc⟩ := hI.cells (by omega)
      cases e
      have add_pl : (⟨b, off, none⟩ : Addr).add j = ⟨b, off + j, none⟩ := by unfold Addr.add; split <;> simp_all
      rw [add_pl, hc j hj, hx]; rfl
    obtain ⟨v', w', h1, h2, h3, _, h5⟩ := run_append_own_at (P := Tryz.prog) w B 38 ty 3 i0 (.int .i64 0) 1 8 Tryz.underlying38 hi0 hz0 hz1 hz2 rfl (by decide) v n xs hown ad m c (vals ys) (by rw [vals_len]; omega) hnews
      (by intro u hu; simp [vals] at hu; obtain ⟨_, _, rfl⟩ := hu; rfl) (by unfold maxLen; omega) (by omega) hB
    exact ⟨v', w', h1, h2, h3, h5.imp id .inl⟩

/-- What a row that the call owns is, as a slice of integers. -/
theorem own_ints {w : World} {B : Nat} {v : Value} {n : Nat} {xs : List Int} (h : w.ownsRow B 3 1 v n (vals xs)) (hs : n ≤ 17592186044416) (hw : ∀ x ∈ xs, -9223372036854775808 ≤ x ∧ x ≤ 9223372036854775807) :
    ∃ A c, v = .slice A n c ∧ IntsAt w A n xs := by
  have hl := h.1
  rw [vals_len] at hl
  rcases h.2 with ⟨rfl, rfl⟩ | ⟨g, cap, cur, rfl, hb, hg, _⟩
  · have : xs = [] := List.eq_nil_of_length_eq_zero (by omega)
    subst this
    exact ⟨none, 0, rfl, ints_nil w none⟩
  · refine ⟨some ⟨g, 0, none⟩, cap, rfl, by omega, hs, hw, fun _ => ⟨g, 0, rfl, (Array.getElem?_eq_some_iff.1 hg).1, fun j hj => ?_⟩⟩
    have := World.ownsRow.cellAt h j (by omega)
    rw [Nat.zero_add, this]
    have hj' : j < xs.length := by omega
    simp [vals, hj']

section
variable {ops : Array Oper} {o : Oper} {a : Act} {w : World} {Q : Exit → Act → World → Prop}
/-- The append in a plain region. -/
theorem wpList_append_ints {rest : List Oper} (hgd : o.guard = none) (s x : Operand) (ho : o.op = .call { callee := .builtin .append, args := #[s, x], argTypes := #[38, 38] })
    (B : Nat) (v : Value) (n : Nat) (xs : List Value) (hs : a.eval s = v) (hown : w.ownsRow B 3 1 v n xs) (A : Option Addr) (m c : Nat) (ys : List Int) (hx : a.eval x = .slice A m c) (hI : IntsAt w A m ys) (hnm : n + m ≤ 17592186044416) (hB : B ≤ w.heap.size)
    (h : ∀ A' c' w', w'.ownsRow B 3 1 (.slice A' (n + m) c') (n + m) (xs ++ vals ys) → w.grownBy w' v.ownBlock → wpList Tryz.prog ops Q rest (a.put o.dst (.slice A' (n + m) c')) w') : wpList Tryz.prog ops Q (o :: rest) a w :=
  wpList_plain hgd fun _ hK => by
    obtain ⟨v', w', h1, h2, h3, _⟩ := append_ints w B o.type v n xs hown A m c ys hI hnm hB
    obtain ⟨A', c', rfl⟩ := own_slice h2
    unfold Oper.wp
    rw [exec_append ho hs hx h1, Oper.upon_value]
    exact hK _ _ (h A' c' w' h2 h3)
/-- The append as a step of a region that draws. -/
theorem step_append_ints {K : Act → World → Prop} {E : Prop} (hgd : o.guard = none) (s x : Operand) (ho : o.op = .call { callee := .builtin .append, args := #[s, x], argTypes := #[38, 38] })
    (B : Nat) (v : Value) (n : Nat) (xs : List Value) (hs : a.eval s = v) (hown : w.ownsRow B 3 1 v n xs) (A : Option Addr) (m c : Nat) (ys : List Int) (hx : a.eval x = .slice A m c) (hI : IntsAt w A m ys) (hnm : n + m ≤ 17592186044416) (hB : B ≤ w.heap.size)
    (h : ∀ A' c' w', w'.ownsRow B 3 1 (.slice A' (n + m) c') (n + m) (xs ++ vals ys) → w.grownBy w' v.ownBlock → K (a.put o.dst (.slice A' (n + m) c')) w') : if Region.wanted o (yielded ops a.tmps) = true then Oper.wp Tryz.prog o a w K Q else E := by
  have hw : Region.wanted o (yielded ops a.tmps) = true := by simp [Region.wanted, hgd]
  rw [if_pos hw]
  obtain ⟨v', w', h1, h2, h3, _⟩ := append_ints w B o.type v n xs hown A m c ys hI hnm hB
  obtain ⟨A', c', rfl⟩ := own_slice h2
  unfold Oper.wp
  rw [exec_append ho hs hx h1, Oper.upon_value]
  exact h A' c' w' h2 h3
end
end Go.Proofs.YtkgnlloioaobiaaGreat

/-
  The reference's Cmp: two rows, each with the constant behind it, in any order; then Order.
-/
namespace Go.Proofs.YtkgnlloioaobiaaGreat
open Go.RowKit
set_option linter.unusedVariables false
set_option maxRecDepth 100000
set_option linter.unusedSimpArgs false

/-- The facts of Cmp's operations. -/
def cmpFacts (n : Nat) (b1 : Nat) (A : Option Addr) (c : Nat) (K : Int) (xs : List Int) (b2 : Nat) (A' : Option Addr) (c' : Nat) (L : Int) (ys : List Int) (B : Nat) : Nat → Fact B
  | 0 => .own 3 0 []
  | 1 => .val (.pointer (some ⟨b1, 0, none⟩))
  | 2 => .val (.slice A n c)
  | 3 => .own 3 (0 + n) ([] ++ vals xs)
  | 4 => .val (.pointer (some ⟨b1, 1, none⟩))
  | 5 => .val (.int .i64 K)
  | 6 => .own 3 1 (vals [K])
  | 7 => .own 3 ((0 + n) + 1) (([] ++ vals xs) ++ vals [K])
  | 8 => .own 3 0 []
  | 9 => .val (.pointer (some ⟨b2, 0, none⟩))
  | 10 => .val (.slice A' n c')
  | 11 => .own 3 (0 + n) ([] ++ vals ys)
  | 12 => .val (.pointer (some ⟨b2, 1, none⟩))
  | 13 => .val (.int .i64 L)
  | 14 => .own 3 1 (vals [L])
  | 15 => .own 3 ((0 + n) + 1) (([] ++ vals ys) ++ vals [L])
  | 16 => .val (.int .i64 (ordL (xs ++ [K]) (ys ++ [L])))
  | 17 => .val (.int .i64 (ordL (xs ++ [K]) (ys ++ [L])))
  | _ => .any

def cmpPlan : Plan where
  slots := [5, 6, 7, 8, 9, 10, 11, 12, 13, 14, 15, 16, 17, 18, 19, 20, 21, 4]
  kill := [[], [], [], [0], [], [], [], [3], [], [], [], [8], [], [], [], [11], [], []]
  need := [[], [], [1], [0, 2], [], [4], [5], [3, 6], [], [], [9], [8, 10], [], [12], [13], [11, 14], [7, 15], [16]]

theorem ref_cmp (A : Option Addr) (n c : Nat) (K : Int) (xs : List Int) (A' : Option Addr) (c' : Nat) (L : Int) (ys : List Int) (w : World) (hI : IntsAt w A n xs) (hI' : IntsAt w A' n ys) (hn12 : n ≤ 12) (hK : -9223372036854775808 ≤ K ∧ K ≤ 9223372036854775807) (hL : -9223372036854775808 ≤ L ∧ L ≤ 9223372036854775807) :
    Calls Tryz.prog 132 #[.agg #[.slice A n c, .int .i64 K], .agg #[.slice A' n c', .int .i64 L]] w fun e w' => e = .returned (.int .i64 (ordL (xs ++ [K]) (ys ++ [L]))) ∧ Below w.heap.size w w' := by
  have B1 := (LBox.new w A n c K).alloc (.cells #[.slice A' n c', .int .i64 L] 54)
  have B2 := LBox.new (w.alloc (.cells #[.slice A n c, .int .i64 K] 54)) A' n c' L
  have hB := below_step (below_alloc w (.cells #[.slice A n c, .int .i64 K] 54)) (below_alloc _ (.cells #[.slice A' n c', .int .i64 L] 54))
  have h1 := hI.step hB
  have h2 := hI'.step hB
  simp only [World.size_alloc] at B2
  have HKs := Lib.hid (show ∀ x ∈ xs ++ [K], -9223372036854775808 ≤ x ∧ x ≤ 9223372036854775807 by
    intro x hx
    rcases List.mem_append.1 hx with h | h
    · exact hI.wf x h
    · rw [List.mem_singleton.1 h]; exact hK)
  have HLs := Lib.hid (show ∀ x ∈ ys ++ [L], -9223372036854775808 ≤ x ∧ x ≤ 9223372036854775807 by
    intro x hx
    rcases List.mem_append.1 hx with h | h
    · exact hI'.wf x h
    · rw [List.mem_singleton.1 h]; exact hL)
  have HK : ∀ x ∈ [K], -9223372036854775808 ≤ x ∧ x ≤ 9223372036854775807 := fun x hx => by rw [List.mem_singleton.1 hx]; exact hK
  have HL : ∀ x ∈ [L], -9223372036854775808 ≤ x ∧ x ≤ 9223372036854775807 := fun x hx => by rw [List.mem_singleton.1 hx]; exact hL
  clear hI hI' hK hL
  go_enter Tryz.func132, Tryz.ntmps132
  go_wp2
  generalize hw1 : ((w.alloc (.cells #[.slice A n c, .int .i64 K] 54)).alloc (.cells #[.slice A' n c', .int .i64 L] 54)) = w1 at *
  rename_i hwalk
  refine wp_region_plan (by rfl) cmpPlan (cmpFacts n w.heap.size A c K xs (w.heap.size + 1) A' c' L ys w1.heap.size) (fun W => Below w1.heap.size w1 W) (by kernel_rfl) rfl (Below.refl _ _).drew ?_ ?_
  case refine_2 =>
    intro a W hS hsz hdf hold hf
    have e1 := getd (show a.tmps.getD 4 undef = _ from hf 17 (by decide) (by decide))
    refine hwalk a W ?_
    go_wp2
    refine bodyPost_ret (v := .int .i64 (ordL (xs ++ [K]) (ys ++ [L]))) ?_ hdf ⟨rfl, below_step hB hS⟩
    simp [results, Tryz.results132, go_sem, e1]
  have hsm := h1.small
  refine ⟨?_, ?_, ?_, ?_, ?_, ?_, ?_, ?_, ?_, ?_, ?_, ?_, ?_, ?_, ?_, ?_, ?_, ?_, trivial⟩ <;> intro a W hS hold hn _ hsz0 <;> have hsz : Hid (a.tmps.size = 22) := Lib.hid hsz0 <;> clear hsz0
  · refine step_lit (cs := #[]) rfl rfl (slot_lt hsz (by kernel_rfl)) rfl (by decide) hS.size ?_ (hS.alloc hS.size _)
    go_simp
  · have e2 := getd (hold 2 rfl)
    refine step_val rfl rfl (slot_lt hsz (by kernel_rfl)) ?_ hS
    go_simp
  · obtain ⟨f1, _⟩ := hn
    have e1 := getd (show a.tmps.getD 6 undef = _ from f1)
    have c1 := (B1.below hS B1.lt).c0
    refine step_val rfl rfl (slot_lt hsz (by kernel_rfl)) ?_ hS
    go_simp
  · obtain ⟨f1, f2, _⟩ := hn
    have f1 : W.ownsRow w1.heap.size 3 1 (a.tmps.getD 5 undef) 0 ([]) := f1
    have f2 : a.tmps.getD 7 undef = _ := f2
    refine step_more rfl rfl (slot_lt hsz (by kernel_rfl)) rfl rfl ?_ (fun w' hg => hS.grown hg hS.size fun k hk => (f1.lt k hk).1)
    obtain ⟨v', w', r1, r2, r3, r4⟩ := append_ints W w1.heap.size 38 _ _ _ f1 _ _ _ _ (h1.step hS) (by omega) hS.size
    exact ⟨v', w', exec_append rfl rfl f2 r1, r2, r3, r4⟩
  · have e2 := getd (hold 2 rfl)
    refine step_val rfl rfl (slot_lt hsz (by kernel_rfl)) ?_ hS
    go_simp
  · obtain ⟨f1, _⟩ := hn
    have e1 := getd (show a.tmps.getD 9 undef = _ from f1)
    have c1 := (B1.below hS B1.lt).c1
    refine step_val rfl rfl (slot_lt hsz (by kernel_rfl)) ?_ hS
    go_simp
  · obtain ⟨f1, _⟩ := hn
    have e1 := getd (show a.tmps.getD 10 undef = _ from f1)
    refine step_lit (cs := #[.int .i64 K]) rfl rfl (slot_lt hsz (by kernel_rfl)) rfl (by decide) hS.size ?_ (hS.alloc hS.size _)
    go_simp
  · obtain ⟨f1, f2, _⟩ := hn
    have f1 : W.ownsRow w1.heap.size 3 1 (a.tmps.getD 8 undef) (0 + n) ([] ++ vals xs) := f1
    have f2 : W.ownsRow w1.heap.size 3 1 (a.tmps.getD 11 undef) 1 (vals [K]) := f2
    obtain ⟨A2, c2, e2, i2⟩ := own_ints f2 (by omega) (HK)
    refine step_more rfl rfl (slot_lt hsz (by kernel_rfl)) rfl rfl ?_ (fun w' hg => hS.grown hg hS.size fun k hk => (f1.lt k hk).1)
    obtain ⟨v', w', r1, r2, r3, r4⟩ := append_ints W w1.heap.size 38 _ _ _ f1 _ _ _ _ i2 (by omega) hS.size
    exact ⟨v', w', exec_append rfl rfl e2 r1, r2, r3, r4⟩
  · refine step_lit (cs := #[]) rfl rfl (slot_lt hsz (by kernel_rfl)) rfl (by decide) hS.size ?_ (hS.alloc hS.size _)
    go_simp
  · have e2 := getd (hold 3 rfl)
    refine step_val rfl rfl (slot_lt hsz (by kernel_rfl)) ?_ hS
    go_simp
  · obtain ⟨f1, _⟩ := hn
    have e1 := getd (show a.tmps.getD 14 undef = _ from f1)
    have c1 := (B2.below hS B2.lt).c0
    refine step_val rfl rfl (slot_lt hsz (by kernel_rfl)) ?_ hS
    go_simp
  · obtain ⟨f1, f2, _⟩ := hn
    have f1 : W.ownsRow w1.heap.size 3 1 (a.tmps.getD 13 undef) 0 ([]) := f1
    have f2 : a.tmps.getD 15 undef = _ := f2
    refine step_more rfl rfl (slot_lt hsz (by kernel_rfl)) rfl rfl ?_ (fun w' hg => hS.grown hg hS.size fun k hk => (f1.lt k hk).1)
    obtain ⟨v', w', r1, r2, r3, r4⟩ := append_ints W w1.heap.size 38 _ _ _ f1 _ _ _ _ (h2.step hS) (by omega) hS.size
    exact ⟨v', w', exec_append rfl rfl f2 r1, r2, r3, r4⟩
  · have e2 := getd (hold 3 rfl)
    refine step_val rfl rfl (slot_lt hsz (by kernel_rfl)) ?_ hS
    go_simp
  · obtain ⟨f1, _⟩ := hn
    have e1 := getd (show a.tmps.getD 17 undef = _ from f1)
    have c1 := (B2.below hS B2.lt).c1
    refine step_val rfl rfl (slot_lt hsz (by kernel_rfl)) ?_ hS
    go_simp
  · obtain ⟨f1, _⟩ := hn
    have e1 := getd (show a.tmps.getD 18 undef = _ from f1)
    refine step_lit (cs := #[.int .i64 L]) rfl rfl (slot_lt hsz (by kernel_rfl)) rfl (by decide) hS.size ?_ (hS.alloc hS.size _)
    go_simp
  · obtain ⟨f1, f2, _⟩ := hn
    have f1 : W.ownsRow w1.heap.size 3 1 (a.tmps.getD 16 undef) (0 + n) ([] ++ vals ys) := f1
    have f2 : W.ownsRow w1.heap.size 3 1 (a.tmps.getD 19 undef) 1 (vals [L]) := f2
    obtain ⟨A2, c2, e2, i2⟩ := own_ints f2 (by omega) (HL)
    refine step_more rfl rfl (slot_lt hsz (by kernel_rfl)) rfl rfl ?_ (fun w' hg => hS.grown hg hS.size fun k hk => (f1.lt k hk).1)
    obtain ⟨v', w', r1, r2, r3, r4⟩ := append_ints W w1.heap.size 38 _ _ _ f1 _ _ _ _ i2 (by omega) hS.size
    exact ⟨v', w', exec_append rfl rfl e2 r1, r2, r3, r4⟩
  · obtain ⟨f1, f2, _⟩ := hn
    have f1 : W.ownsRow w1.heap.size 3 1 (a.tmps.getD 12 undef) ((0 + n) + 1) (([] ++ vals xs) ++ vals [K]) := f1
    have f2 : W.ownsRow w1.heap.size 3 1 (a.tmps.getD 20 undef) ((0 + n) + 1) (([] ++ vals ys) ++ vals [L]) := f2
    rw [List.nil_append, ← vals_app, Nat.zero_add] at f1 f2
    obtain ⟨A1, c1, e1, i1⟩ := own_ints f1 (by omega) (HKs.out)
    obtain ⟨A2, c2, e2, i2⟩ := own_ints f2 (by omega) (HLs.out)
    have e1 := getd e1
    have e2 := getd e2
    refine step_call (f := 130) (args := #[.slice A1 (n + 1) c1, .slice A2 (n + 1) c2]) rfl rfl (slot_lt hsz (by kernel_rfl)) ?_ ((ref_order W A1 A2 (n + 1) c1 c2 _ _ i1 i2).mono ?_)
    · go_simp
    · rintro e w' ⟨rfl, k, rfl⟩
      exact ⟨rfl, hS.trans ((below_of_drewN k).mono hS.size), ⟨rfl, rfl, rfl, Nat.le_refl _, fun _ _ _ => rfl⟩⟩
  · obtain ⟨f1, _⟩ := hn
    have e1 := getd (show a.tmps.getD 21 undef = _ from f1)
    refine step_val rfl rfl (slot_lt hsz (by kernel_rfl)) ?_ hS
    go_simp

theorem ordL_snoc : ∀ (xs ys : List Int) (K L : Int), xs.length = ys.length → ordL (xs ++ [K]) (ys ++ [L]) = ordE xs K ys L := by
  intro xs
  induction xs with
  | nil => intro ys K L h; cases ys with
    | nil => simp [ordE, ordL, cmpI]
    | cons y ys => simp at h
  | cons x xs ih => intro ys K L h; cases ys with
    | nil => simp at h
    | cons y ys =>
      have := ih ys K L (by simpa using h)
      unfold ordE at this ⊢
      simp only [List.cons_append, ordL] at this ⊢
      split
      · simp
      · split
        · simp
        · exact this
end Go.Proofs.YtkgnlloioaobiaaGreat

/-
  The reference's Compare, in one.
-/
namespace Go.Proofs.YtkgnlloioaobiaaGreat
open Go.RowKit
set_option linter.unusedVariables false
set_option linter.unusedSimpArgs false

end Go.Proofs.YtkgnlloioaobiaaGreat

/-
  Ranks of kinds; cmp.Or.
-/
namespace Go.Proofs.YtkgnlloioaobiaaGreat
open Go.RowKit
set_option linter.unusedVariables false
set_option linter.unusedSimpArgs false

def rankI (q : Int) : Int := if q = 1 then 0 else if q = 0 then 1 else 2

theorem ref_rank (q : Int) (w : World) : Calls Tryz.prog 131 #[.int .i64 q] w fun e w' => e = .returned (.int .i64 (rankI q)) ∧ w = w' := by
  by_cases h1 : q = 1
  · subst h1
    go_enter Tryz.func131, Tryz.ntmps131
    go_wp2
    go_ret
    exact ⟨rfl, rfl⟩
  · by_cases h0 : q = 0
    · subst h0
      go_enter Tryz.func131, Tryz.ntmps131
      go_wp2
      go_ret
      exact ⟨rfl, rfl⟩
    · have HR := Lib.hid (show rankI q = 2 by unfold rankI; rw [if_neg h1, if_neg h0])
      have q1 : (q == 1) = false := by simpa using h1
      have q0 : (q == 0) = false := by simpa using h0
      clear h1 h0
      go_enter Tryz.func131, Tryz.ntmps131
      go_wp2
      go_ret
      exact ⟨ret1 (vint HR.out.symm), rfl⟩

end Go.Proofs.YtkgnlloioaobiaaGreat

/-
  Comparing conditions: cond.Compare, the reference's Cmp and Compare.
-/
namespace Go.Proofs.YtkgnlloioaobiaaGreat
open Go.RowKit
set_option linter.unusedVariables false
set_option maxRecDepth 100000
set_option linter.unusedSimpArgs false

/-- The order of two conditions. -/
def ordC (q M : Int) (xs : List Int) (K : Int) (q' M' : Int) (ys : List Int) (L : Int) : Int := leadI [cmpI (rankI q) (rankI q'), cmpI M M', ordE xs K ys L]
def ccErr (q M : Int) (xs : List Int) (K : Int) (q' M' : Int) (ys : List Int) (L : Int) : Int := if validC q M xs K = true ∧ validC q' M' ys L = true then (if xs.length = ys.length then 0 else 2) else 1
def ccVal (q M : Int) (xs : List Int) (K : Int) (q' M' : Int) (ys : List Int) (L : Int) : Int := if ccErr q M xs K q' M' ys L = 0 then ordC q M xs K q' M' ys L else 0
theorem cmp_bd (x y : Int) : -1 ≤ cmpI x y ∧ cmpI x y ≤ 1 := by unfold cmpI; split <;> (try split) <;> omega
theorem rank_bd (q : Int) : 0 ≤ rankI q ∧ rankI q ≤ 2 := by unfold rankI; split <;> (try split) <;> omega
theorem ord_bd : ∀ xs ys : List Int, -1 ≤ ordL xs ys ∧ ordL xs ys ≤ 1
  | [], [] => by decide
  | [], _ :: _ => by simp [ordL]
  | _ :: _, [] => by simp [ordL]
  | x :: xs, y :: ys => by
    have := ord_bd xs ys
    simp only [ordL]
    split <;> (try split) <;> omega
theorem ordL_two (a b c d : Int) : ordL [a, b] [c, d] = if cmpI a c = 0 then cmpI b d else cmpI a c := by
  unfold cmpI ordL ordL ordL
  split <;> (try split) <;> (try split) <;> (try split) <;> simp_all
theorem ordE_bd (xs : List Int) (K : Int) (ys : List Int) (L : Int) : -1 ≤ ordE xs K ys L ∧ ordE xs K ys L ≤ 1 := by
  unfold ordE
  have h1 := cmp_bd K L
  have h2 := ord_bd xs ys
  split <;> omega

/-- The facts of the operations. -/
def ccFacts (b1 b2 : Nat) (q M q' M' : Int) (o : Int) (B : Nat) : Nat → Fact B
  | 0 => .val (.pointer (some ⟨b1, 0, none⟩))
  | 1 => .val (.int .i64 q)
  | 2 => .val (.int .i64 (rankI q))
  | 3 => .val (.pointer (some ⟨b2, 0, none⟩))
  | 4 => .val (.int .i64 q')
  | 5 => .val (.int .i64 (rankI q'))
  | 6 => .val (.int .i64 (cmpI (rankI q) (rankI q')))
  | 7 => .val (.pointer (some ⟨b1, 1, none⟩))
  | 8 => .val (.int .i64 M)
  | 9 => .val (.pointer (some ⟨b2, 1, none⟩))
  | 10 => .val (.int .i64 M')
  | 11 => .val (.int .i64 (cmpI M M'))
  | 12 => .val (.int .i64 o)
  | 13 => .own 3 3 (vals [cmpI (rankI q) (rankI q'), cmpI M M', o])
  | 14 => .val (.int .i64 (leadI [cmpI (rankI q) (rankI q'), cmpI M M', o]))
  | 15 => .val (.int .i64 (leadI [cmpI (rankI q) (rankI q'), cmpI M M', o]))
  | 16 => .val (.int .i64 0)
  | _ => .any

def ccPlan : Plan where
  slots := [27, 28, 29, 30, 31, 32, 33, 34, 35, 36, 37, 38, 39, 40, 41, 4, 5]
  kill := [[], [], [], [], [], [], [], [], [], [], [], [], [], [], [], [], []]
  need := [[], [0], [1], [], [3], [4], [2, 5], [], [7], [], [9], [8, 10], [], [6, 11, 12], [13], [14], []]

/-- The facts of the operations. -/
def rcFacts (b1 b2 : Nat) (q M q' M' : Int) (B : Nat) : Nat → Fact B
  | 0 => .val (.pointer (some ⟨b1, 0, none⟩))
  | 1 => .val (.int .i64 q)
  | 2 => .val (.int .i64 (rankI q))
  | 3 => .val (.pointer (some ⟨b1, 1, none⟩))
  | 4 => .val (.int .i64 M)
  | 5 => .own 3 2 (vals [rankI q, M])
  | 6 => .val (.pointer (some ⟨b2, 0, none⟩))
  | 7 => .val (.int .i64 q')
  | 8 => .val (.int .i64 (rankI q'))
  | 9 => .val (.pointer (some ⟨b2, 1, none⟩))
  | 10 => .val (.int .i64 M')
  | 11 => .own 3 2 (vals [rankI q', M'])
  | 12 => .val (.int .i64 (ordL [rankI q, M] [rankI q', M']))
  | 13 => .val (.int .i64 (ordL [rankI q, M] [rankI q', M']))
  | _ => .any

def rcPlan : Plan where
  slots := [6, 7, 8, 9, 10, 11, 12, 13, 14, 15, 16, 17, 18, 5]
  kill := [[], [], [], [], [], [], [], [], [], [], [], [], [], []]
  need := [[], [0], [1], [], [3], [2, 4], [], [6], [7], [], [9], [8, 10], [5, 11], [12]]

theorem fits_wide0 {x : Int} (h : fitsB x = true) : -9223372036854775808 ≤ x ∧ x ≤ 9223372036854775807 := by
  rw [fitsB_true] at h; omega

section
variable (q M : Int) (A : Option Addr) (n c : Nat) (K : Int) (xs : List Int) (q' M' : Int) (A' : Option Addr) (n' c' : Nat) (L : Int) (ys : List Int) (w : World) (hI : IntsAt w A n xs) (hI' : IntsAt w A' n' ys)
include hI hI'

set_option maxHeartbeats 4000000 in
theorem rcond_cmp (hnn : n = n') (hn12 : n ≤ 12) (hM : -9223372036854775808 ≤ M ∧ M ≤ 9223372036854775807) (hM' : -9223372036854775808 ≤ M' ∧ M' ≤ 9223372036854775807) (hK : -9223372036854775808 ≤ K ∧ K ≤ 9223372036854775807) (hL : -9223372036854775808 ≤ L ∧ L ≤ 9223372036854775807) : Calls Tryz.prog 107 #[condV q M A n c K, condV q' M' A' n' c' L] w fun e w' => e = .returned (.int .i64 (ordC q M xs K q' M' ys L)) ∧ Below w.heap.size w w' := by
  have hll : xs.length = ys.length := by rw [hI.len, hI'.len, hnn]
  have hB := below_step (below_alloc w (.cells #[.int .i64 q, .int .i64 M, .slice A n c, .int .i64 K] 56)) (below_alloc _ (.cells #[.int .i64 q', .int .i64 M', .slice A' n' c', .int .i64 L] 56)); have h1 := hI.step hB; have h2 := hI'.step hB; have B1 := (CBox.new w q M A n c K).alloc (.cells #[.int .i64 q', .int .i64 M', .slice A' n' c', .int .i64 L] 56); have B2 := CBox.new (w.alloc (.cells #[.int .i64 q, .int .i64 M, .slice A n c, .int .i64 K] 56)) q' M' A' n' c' L; simp only [World.size_alloc] at B2; have c0 := B1.c0; have c1 := B1.c1; have c2 := B1.c2; have c3 := B1.c3; have d0 := B2.c0; have d1 := B2.c1; have d2 := B2.c2; have d3 := B2.c3; clear hI hI'
  subst hnn
  have HW1 := Lib.hid (show ∀ x ∈ [rankI q, M], -9223372036854775808 ≤ x ∧ x ≤ 9223372036854775807 by
    intro x hx
    have k1 := rank_bd q
    simp only [List.mem_cons, List.not_mem_nil, or_false] at hx
    rcases hx with rfl | rfl <;> omega)
  have HW2 := Lib.hid (show ∀ x ∈ [rankI q', M'], -9223372036854775808 ≤ x ∧ x ≤ 9223372036854775807 by
    intro x hx
    have k1 := rank_bd q'
    simp only [List.mem_cons, List.not_mem_nil, or_false] at hx
    rcases hx with rfl | rfl <;> omega)
  have HO := Lib.hid (ordL_snoc xs ys K L hll)
  have hOC : ordC q M xs K q' M' ys L = if ordL [rankI q, M] [rankI q', M'] = 0 then ordE xs K ys L else ordL [rankI q, M] [rankI q', M'] := by
    rw [ordL_two]
    unfold ordC leadI leadI leadI leadI
    generalize cmpI (rankI q) (rankI q') = a
    generalize cmpI M M' = b
    generalize ordE xs K ys L = o
    by_cases ha : a = 0
    · rw [if_pos ha, if_pos ha]
      by_cases hb : b = 0
      · rw [if_pos hb, if_pos hb]; split <;> simp_all
      · rw [if_neg hb, if_neg hb]
    · rw [if_neg ha, if_neg ha, if_neg ha]
  obtain ⟨v, hvv⟩ : ∃ v, ordC q M xs K q' M' ys L = v := ⟨_, rfl⟩
  rw [hvv]
  have HVV := Lib.hid (hvv.symm.trans hOC)
  clear hll hOC hvv
  go_enter Tryz.func107, Tryz.ntmps107
  go_wp2
  generalize hw1 : ((w.alloc (.cells #[.int .i64 q, .int .i64 M, .slice A n c, .int .i64 K] 56)).alloc (.cells #[.int .i64 q', .int .i64 M', .slice A' n c', .int .i64 L] 56)) = w1 at *
  clear hw1 c0 c1 c2 c3 d0 d1 d2 d3
  go_cut [5] from 6 (fun v W => v = .int .i64 (ordL [rankI q, M] [rankI q', M']) ∧ Below w1.heap.size w1 W)
  case first =>
    rename_i hJ hK2
    refine wp_region_plan (by rfl) rcPlan (rcFacts w.heap.size (w.heap.size + 1) q M q' M' w1.heap.size) (fun W => Below w1.heap.size w1 W) (by kernel_rfl) rfl (Below.refl _ _).drew ?_ ?_
    case refine_2 =>
      intro a W hS hsz hdf hold hf
      refine hK2 _ _ (Met.intro (hJ _ _ ?_))
      repeat apply Exists.intro
      refine ⟨?_, act_lit (n := 27) rcPlan hsz hdf hold⟩
      exact ⟨hf 13 (by decide) (by decide), hS⟩
    refine ⟨?_, ?_, ?_, ?_, ?_, ?_, ?_, ?_, ?_, ?_, ?_, ?_, ?_, ?_, trivial⟩ <;> intro a W hS hold hn hap hsz0 <;> have hsz : Hid (a.tmps.size = 27) := Lib.hid hsz0 <;> clear hsz0
    · have o1 := getd (hold 2 rfl)
      refine step_val rfl rfl (slot_lt hsz (by kernel_rfl)) ?_ hS
      go_simp
    · obtain ⟨f1, _⟩ := hn
      have e1 := getd (show a.tmps.getD 6 undef = _ from f1)
      have c1 := (B1.below hS B1.lt).c0
      refine step_val rfl rfl (slot_lt hsz (by kernel_rfl)) ?_ hS
      go_simp
    · obtain ⟨f1, _⟩ := hn
      have e1 := getd (show a.tmps.getD 7 undef = _ from f1)
      refine step_call (f := 131) (args := #[.int .i64 q]) rfl rfl (slot_lt hsz (by kernel_rfl)) ?_ ((ref_rank q W).mono ?_)
      · go_simp
      · rintro e w' ⟨rfl, rfl⟩; exact ⟨rfl, hS, grown_same _⟩
    · have o1 := getd (hold 2 rfl)
      refine step_val rfl rfl (slot_lt hsz (by kernel_rfl)) ?_ hS
      go_simp
    · obtain ⟨f1, _⟩ := hn
      have e1 := getd (show a.tmps.getD 9 undef = _ from f1)
      have c1 := (B1.below hS B1.lt).c1
      refine step_val rfl rfl (slot_lt hsz (by kernel_rfl)) ?_ hS
      go_simp
    · obtain ⟨f1, f2, _⟩ := hn
      have e1 := getd (show a.tmps.getD 8 undef = _ from f1)
      have e2 := getd (show a.tmps.getD 10 undef = _ from f2)
      refine step_lit (cs := (vals [rankI q, M]).toArray) rfl rfl (slot_lt hsz (by kernel_rfl)) rfl (by decide) hS.size ?_ (hS.alloc hS.size _)
      go_simp
      try rfl
    · have o1 := getd (hold 3 rfl)
      refine step_val rfl rfl (slot_lt hsz (by kernel_rfl)) ?_ hS
      go_simp
    · obtain ⟨f1, _⟩ := hn
      have e1 := getd (show a.tmps.getD 12 undef = _ from f1)
      have c1 := (B2.below hS B2.lt).c0
      refine step_val rfl rfl (slot_lt hsz (by kernel_rfl)) ?_ hS
      go_simp
    · obtain ⟨f1, _⟩ := hn
      have e1 := getd (show a.tmps.getD 13 undef = _ from f1)
      refine step_call (f := 131) (args := #[.int .i64 q']) rfl rfl (slot_lt hsz (by kernel_rfl)) ?_ ((ref_rank q' W).mono ?_)
      · go_simp
      · rintro e w' ⟨rfl, rfl⟩; exact ⟨rfl, hS, grown_same _⟩
    · have o1 := getd (hold 3 rfl)
      refine step_val rfl rfl (slot_lt hsz (by kernel_rfl)) ?_ hS
      go_simp
    · obtain ⟨f1, _⟩ := hn
      have e1 := getd (show a.tmps.getD 15 undef = _ from f1)
      have c1 := (B2.below hS B2.lt).c1
      refine step_val rfl rfl (slot_lt hsz (by kernel_rfl)) ?_ hS
      go_simp
    · obtain ⟨f1, f2, _⟩ := hn
      have e1 := getd (show a.tmps.getD 14 undef = _ from f1)
      have e2 := getd (show a.tmps.getD 16 undef = _ from f2)
      refine step_lit (cs := (vals [rankI q', M']).toArray) rfl rfl (slot_lt hsz (by kernel_rfl)) rfl (by decide) hS.size ?_ (hS.alloc hS.size _)
      go_simp
      try rfl
    · obtain ⟨f1, f2, _⟩ := hn
      have f1 : W.ownsRow w1.heap.size 3 1 (a.tmps.getD 11 undef) (2) (vals [rankI q, M]) := f1
      have f2 : W.ownsRow w1.heap.size 3 1 (a.tmps.getD 17 undef) (2) (vals [rankI q', M']) := f2
      obtain ⟨A8, c8, e8, i8⟩ := own_ints f1 (by omega) HW1.out
      obtain ⟨A9, c9, e9, i9⟩ := own_ints f2 (by omega) HW2.out
      have e1 := getd e8
      have e2 := getd e9
      refine step_call (f := 130) (args := #[.slice A8 2 c8, .slice A9 2 c9]) rfl rfl (slot_lt hsz (by kernel_rfl)) ?_ ((ref_order W A8 A9 2 c8 c9 _ _ i8 i9).mono ?_)
      · go_simp
      · rintro e w' ⟨rfl, k, rfl⟩; exact ⟨rfl, hS.trans ((below_of_drewN k).mono hS.size), ⟨rfl, rfl, rfl, Nat.le_refl _, fun _ _ _ => rfl⟩⟩
    · obtain ⟨f1, _⟩ := hn
      have e1 := getd (show a.tmps.getD 18 undef = _ from f1)
      refine step_val rfl rfl (slot_lt hsz (by kernel_rfl)) ?_ hS
      go_simp
  case rest =>
    obtain ⟨rfl, hb⟩ := hcut
    replace hB := below_step hB hb; replace h1 := h1.step hb; replace h2 := h2.step hb; replace B1 := B1.step hb; replace B2 := B2.step hb; have c0 := B1.c0; have c1 := B1.c1; have c2 := B1.c2; have c3 := B1.c3; have d0 := B2.c0; have d1 := B2.c1; have d2 := B2.c2; have d3 := B2.c3
    clear hb
    generalize ordL [rankI q, M] [rankI q', M'] = o at *
    by_cases ho : o = 0
    · subst ho
      go_wp2_with (go_at_call 132; refine (ref_cmp _ _ _ _ xs _ _ _ ys _ h1 h2 hn12 hK hL).mono ?_; rintro e w2 ⟨rfl, hb⟩; rw [HO.out]; replace hB := below_step hB hb)
      go_ret
      exact ⟨ret1 (vint (by rw [HVV.out]; simp)), hB⟩
    · have HNE := Lib.hid ho
      have q1 : (o != 0) = true := by simpa using ho
      have q2 : (o == 0) = false := by simpa using ho
      clear ho
      go_wp2
      go_ret
      exact ⟨ret1 (vint (by rw [HVV.out]; simp [HNE.out])), hB⟩

end
end Go.Proofs.YtkgnlloioaobiaaGreat

/-
  The order of conditions as mathematics: a key of each condition, compared number by number.
-/
namespace Go.Proofs.YtkgnlloioaobiaaGreat
open Go.RowKit
set_option linter.unusedVariables false

/-- The numbers by which a condition is ordered. -/
def keyD (d : CD) : List Int := rankI d.q :: d.M :: (d.xs ++ [d.K])
def ordD (a b : CD) : Int := ordC a.q a.M a.xs a.K b.q b.M b.xs b.K

theorem lex_swap : ∀ xs ys : List Int, ordL ys xs = -ordL xs ys
  | [], [] => rfl
  | [], _ :: _ => rfl
  | _ :: _, [] => rfl
  | x :: xs, y :: ys => by
    have := lex_swap xs ys
    simp only [ordL]
    split <;> split <;> (try split) <;> omega
theorem lex_zero : ∀ xs ys : List Int, xs.length = ys.length → (ordL xs ys = 0 ↔ xs = ys)
  | [], [], _ => by simp [ordL]
  | x :: xs, y :: ys, h => by
    have := lex_zero xs ys (by simpa using h)
    simp only [ordL, List.cons.injEq]
    rw [← this]
    split
    · constructor
      · omega
      · omega
    · split
      · constructor <;> omega
      · constructor
        · intro h'; exact ⟨by omega, h'⟩
        · intro h'; exact h'.2
/-- Not behind and not behind: not behind. -/
theorem lex_le : ∀ xs ys zs : List Int, xs.length = ys.length → ys.length = zs.length → ordL xs ys ≤ 0 → ordL ys zs ≤ 0 → ordL xs zs ≤ 0
  | [], [], [], _, _, _, _ => by decide
  | x :: xs, y :: ys, z :: zs, h1, h2, h3, h4 => by
    have ih := lex_le xs ys zs (by simpa using h1) (by simpa using h2)
    simp only [ordL] at h3 h4 ⊢
    split at h3
    · split at h4
      · rw [if_pos (by omega)]; omega
      · split at h4
        · omega
        · rw [if_pos (by omega)]; omega
    · split at h3
      · omega
      · split at h4
        · rw [if_pos (by omega)]; omega
        · split at h4
          · omega
          · rw [if_neg (by omega), if_neg (by omega)]; exact ih h3 h4

theorem ordD_key {a b : CD} (h : a.xs.length = b.xs.length) : ordD a b = ordL (keyD a) (keyD b) := by
  unfold ordD ordC keyD
  have h2 := ordL_snoc a.xs b.xs a.K b.K h
  simp only [ordL]
  rw [h2]
  unfold leadI leadI leadI leadI
  generalize ordE a.xs a.K b.xs b.K = o
  unfold cmpI
  by_cases h3 : rankI a.q < rankI b.q
  · simp [h3]
  · by_cases h4 : rankI b.q < rankI a.q
    · simp [h3, h4]
    · by_cases h5 : a.M < b.M
      · simp [h3, h4, h5]
      · by_cases h6 : b.M < a.M
        · simp [h3, h4, h5, h6]
        · simp [h3, h4, h5, h6]
          intro h7; exact h7.symm
theorem key_len (d : CD) : (keyD d).length = d.xs.length + 3 := by simp [keyD]
theorem key_inj {a b : CD} (ha : a.q = 0 ∨ a.q = 1 ∨ a.q = 2) (hb : b.q = 0 ∨ b.q = 1 ∨ b.q = 2) (h : keyD a = keyD b) : a = b := by
  obtain ⟨q, M, xs, K⟩ := a
  obtain ⟨q', M', ys, L⟩ := b
  unfold keyD at h
  simp only [List.cons.injEq] at h
  obtain ⟨h1, h2, h3⟩ := h
  obtain ⟨h4, h5⟩ := List.append_inj' h3 rfl
  have hq : q = q' := by
    have ha : q = 0 ∨ q = 1 ∨ q = 2 := ha
    have hb : q' = 0 ∨ q' = 1 ∨ q' = 2 := hb
    have h1 : rankI q = rankI q' := h1
    rcases ha with rfl | rfl | rfl <;> rcases hb with rfl | rfl | rfl <;> first | rfl | (exfalso; revert h1; decide)
  have h2 : M = M' := h2
  have h4 : xs = ys := h4
  have h5 : K = L := by simpa using h5
  subst hq h2 h4 h5
  rfl
end Go.Proofs.YtkgnlloioaobiaaGreat

/-
  The sorted list of conditions, as mathematics.
-/
namespace Go.Proofs.YtkgnlloioaobiaaGreat
set_option linter.unusedVariables false
set_option linter.unusedSectionVars false
set_option linter.unusedSimpArgs false

section
variable {α : Type} (le : α → α → Bool)
def insL (a : α) : List α → List α
  | [] => [a]
  | b :: l => if le a b = true then a :: b :: l else b :: insL a l
def sortL : List α → List α
  | [] => []
  | a :: l => insL le a (sortL l)
theorem insL_perm (a : α) : ∀ l : List α, (insL le a l).Perm (a :: l)
  | [] => List.Perm.refl _
  | b :: l => by
    unfold insL
    split
    · exact List.Perm.refl _
    · exact ((insL_perm a l).cons b).trans (List.Perm.swap a b l)
theorem sortL_perm : ∀ l : List α, (sortL le l).Perm l
  | [] => List.Perm.refl _
  | a :: l => (insL_perm le a (sortL le l)).trans ((sortL_perm l).cons a)
variable (tot : ∀ a b, le a b = true ∨ le b a = true) (tr : ∀ a b c, le a b = true → le b c = true → le a c = true)
include tot tr in
theorem insL_sorted (a : α) : ∀ l : List α, l.Pairwise (fun x y => le x y = true) → (insL le a l).Pairwise (fun x y => le x y = true)
  | [], _ => by simp [insL]
  | b :: l, h => by
    have hb := List.pairwise_cons.1 h
    unfold insL
    split
    · rename_i hab
      refine List.pairwise_cons.2 ⟨fun x hx => ?_, h⟩
      rcases List.mem_cons.1 hx with rfl | hx
      · exact hab
      · exact tr _ _ _ hab (hb.1 x hx)
    · rename_i hab
      refine List.pairwise_cons.2 ⟨fun x hx => ?_, insL_sorted a l hb.2⟩
      rcases List.mem_cons.1 ((insL_perm le a l).mem_iff.1 hx) with rfl | hx
      · exact (tot _ _).resolve_left hab
      · exact hb.1 x hx
include tot tr in
theorem sortL_sorted : ∀ l : List α, (sortL le l).Pairwise (fun x y => le x y = true)
  | [] => List.Pairwise.nil
  | a :: l => insL_sorted le tot tr a _ (sortL_sorted l)
theorem sorted_one : ∀ (l l' : List α), l.Perm l' → (∀ a ∈ l, ∀ b ∈ l, le a b = true → le b a = true → a = b) → l.Pairwise (fun x y => le x y = true) → l'.Pairwise (fun x y => le x y = true) → l = l'
  | [], l', hp, _, _, _ => (List.nil_perm.1 hp).symm
  | a :: l, [], hp, _, _, _ => absurd hp.length_eq (by simp)
  | a :: l, b :: l', hp, anti, h, h' => by
    have ha := List.pairwise_cons.1 h
    have hb := List.pairwise_cons.1 h'
    have e : a = b := by
      rcases List.mem_cons.1 (hp.mem_iff.1 (List.mem_cons_self ..)) with e | ha'
      · exact e
      · rcases List.mem_cons.1 (hp.mem_iff.2 (List.mem_cons_self ..)) with e | hb'
        · exact e.symm
        · exact anti a (List.mem_cons_self ..) b (List.mem_cons_of_mem _ hb') (ha.1 b hb') (hb.1 a ha')
    subst e
    rw [sorted_one l l' ((List.perm_cons a).1 hp) (fun x hx y hy => anti x (List.mem_cons_of_mem _ hx) y (List.mem_cons_of_mem _ hy)) ha.2 hb.2]
end

/-- The order of conditions, total also between unlike lengths. -/
def leD (a b : CD) : Bool := decide ((keyD a).length < (keyD b).length) || (decide ((keyD a).length = (keyD b).length) && decide (ordL (keyD a) (keyD b) ≤ 0))
theorem leD_iff {a b : CD} : leD a b = true ↔ (keyD a).length < (keyD b).length ∨ ((keyD a).length = (keyD b).length ∧ ordL (keyD a) (keyD b) ≤ 0) := by
  unfold leD; simp
theorem leD_tot (a b : CD) : leD a b = true ∨ leD b a = true := by
  rw [leD_iff, leD_iff]
  have := lex_swap (keyD a) (keyD b)
  omega
theorem leD_tr (a b c : CD) (h : leD a b = true) (h' : leD b c = true) : leD a c = true := by
  rw [leD_iff] at *
  rcases h with h | ⟨h, h0⟩
  · left; omega
  · rcases h' with h' | ⟨h', h1⟩
    · left; omega
    · exact .inr ⟨h.trans h', lex_le _ _ _ h h' h0 h1⟩
/-- The conditions in their order. -/
def sortD (l : List CD) : List CD := sortL leD l
theorem sortD_eq {n : Nat} {l l' : List CD} (hq : ∀ d ∈ l, d.q = 0 ∨ d.q = 1 ∨ d.q = 2) (hn : ∀ d ∈ l, d.xs.length = n) (hp : l'.Perm l) (hs : l'.Pairwise fun a b => ordD a b ≤ 0) : l' = sortD l := by
  have hn' : ∀ d ∈ l', d.xs.length = n := fun d hd => hn d (hp.mem_iff.1 hd)
  have hq' : ∀ d ∈ l', d.q = 0 ∨ d.q = 1 ∨ d.q = 2 := fun d hd => hq d (hp.mem_iff.1 hd)
  refine sorted_one leD l' (sortD l) (hp.trans (sortL_perm leD l).symm) (fun a ha b hb h1 h2 => ?_) ?_ (sortL_sorted leD leD_tot leD_tr l)
  · have e : (keyD a).length = (keyD b).length := by rw [key_len, key_len, hn' a ha, hn' b hb]
    rw [leD_iff] at h1 h2
    have := lex_swap (keyD a) (keyD b)
    exact key_inj (hq' a ha) (hq' b hb) ((lex_zero _ _ e).1 (by omega))
  · refine List.Pairwise.imp_of_mem (fun {a b} ha hb h => ?_) hs
    have e : a.xs.length = b.xs.length := by rw [hn' a ha, hn' b hb]
    rw [ordD_key e] at h
    exact leD_iff.2 (.inr ⟨by rw [key_len, key_len, e], h⟩)
end Go.Proofs.YtkgnlloioaobiaaGreat

/-
  wide.Order, with the very world that it leaves.
-/
namespace Go.Proofs.YtkgnlloioaobiaaGreat
open Go.RowKit Go.Sort
set_option linter.unusedVariables false
set_option maxRecDepth 100000
set_option linter.unusedSimpArgs false

theorem wide_rank (q : Int) (w : World) : Calls Tryz.prog 116 #[.int .i64 q] w fun e w' => e = .returned (.int .i64 (rankI q)) ∧ w = w' := by
  by_cases h1 : q = 1
  · subst h1
    go_enter Tryz.func116, Tryz.ntmps116
    go_wp2
    go_ret
    exact ⟨rfl, rfl⟩
  · by_cases h0 : q = 0
    · subst h0
      go_enter Tryz.func116, Tryz.ntmps116
      go_wp2
      go_ret
      exact ⟨rfl, rfl⟩
    · have HR := Lib.hid (show rankI q = 2 by unfold rankI; rw [if_neg h1, if_neg h0])
      have q1 : (q == 1) = false := by simpa using h1
      have q0 : (q == 0) = false := by simpa using h0
      clear h1 h0
      go_enter Tryz.func116, Tryz.ntmps116
      go_wp2
      go_ret
      exact ⟨ret1 (vint HR.out.symm), rfl⟩

section
variable {q M : Int} {xs : List Int} {K q' M' : Int} {ys : List Int} {L : Int}
theorem ordC_1 {a : Int} (h : cmpI (rankI q) (rankI q') = a) (h1 : a ≠ 0) : ordC q M xs K q' M' ys L = a := by
  unfold ordC; rw [h]; simp [leadI, h1]
theorem ordC_2 {a b : Int} (h : cmpI (rankI q) (rankI q') = a) (h1 : a = 0) (h' : cmpI M M' = b) (h2 : b ≠ 0) : ordC q M xs K q' M' ys L = b := by
  unfold ordC; rw [h, h', h1]; simp [leadI, h2]
theorem ordC_3 {a b c : Int} (h : cmpI (rankI q) (rankI q') = a) (h1 : a = 0) (h' : cmpI M M' = b) (h2 : b = 0) (h'' : ordL xs ys = c) (h3 : c ≠ 0) : ordC q M xs K q' M' ys L = c := by
  unfold ordC ordE; rw [h, h', h1, h2, h'']; simp [leadI, h3]
theorem ordC_4 {a b c d : Int} (h : cmpI (rankI q) (rankI q') = a) (h1 : a = 0) (h' : cmpI M M' = b) (h2 : b = 0) (h'' : ordL xs ys = c) (h3 : c = 0) (h4 : cmpI K L = d) : ordC q M xs K q' M' ys L = d := by
  unfold ordC ordE; rw [h, h', h1, h2, h'', h4, h3]; simp [leadI]; exact fun h => h.symm
end
theorem order_end (w : World) (o o' : Obj) (n : Nat) : ∃ q os', ((w.alloc o).alloc o').drewN n = grow (w.drewN q) os' :=
  ⟨n, #[o, o'], by rw [alloc_eq_grow, alloc_eq_grow, grow_grow]; rfl⟩

theorem ints_drew {w : World} {A : Option Addr} {n : Nat} {xs : List Int} (h : IntsAt w A n xs) (k : Nat) : IntsAt (w.drewN k) A n xs := ⟨h.len, h.small, h.wf, h.cells⟩


set_option maxHeartbeats 4000000 in
theorem wide_order (q M : Int) (A : Option Addr) (n c : Nat) (K : Int) (xs : List Int) (q' M' : Int) (A' : Option Addr) (c' : Nat) (L : Int) (ys : List Int) (w : World) (hI : IntsAt w A n xs) (hI' : IntsAt w A' n ys) :
    Calls Tryz.prog 94 #[condV q M A n c K, condV q' M' A' n c' L] w fun e w' => e = .returned (.int .i64 (ordC q M xs K q' M' ys L)) ∧ ∃ q os', w' = grow (w.drewN q) os' := by
  have b1 := below_alloc w (.cells #[.int .i64 q, .int .i64 M, .slice A n c, .int .i64 K] 56)
  have hB := below_step b1 (below_alloc _ (.cells #[.int .i64 q', .int .i64 M', .slice A' n c', .int .i64 L] 56))
  have h1 := hI.step hB
  have h2 := hI'.step hB
  have B1 := (CBox.new w q M A n c K).alloc (.cells #[.int .i64 q', .int .i64 M', .slice A' n c', .int .i64 L] 56)
  have B2 := CBox.new (w.alloc (.cells #[.int .i64 q, .int .i64 M, .slice A n c, .int .i64 K] 56)) q' M' A' n c' L
  rw [World.size_alloc] at B2
  have c0 := B1.c0
  have c1 := B1.c1
  have c2 := B1.c2
  have c3 := B1.c3
  have d0 := B2.c0
  have d1 := B2.c1
  have d2 := B2.c2
  have d3 := B2.c3
  obtain ⟨a, ha⟩ : ∃ a, cmpI (rankI q) (rankI q') = a := ⟨_, rfl⟩
  have HA := Lib.hid ha
  clear hI hI' b1
  by_cases ha0 : a = 0
  · subst ha0
    obtain ⟨b, hb⟩ : ∃ b, cmpI M M' = b := ⟨_, rfl⟩
    have HB := Lib.hid hb
    have T1 : True := trivial
    by_cases hb0 : b = 0
    · subst hb0
      obtain ⟨cc, hc⟩ : ∃ cc, ordL xs ys = cc := ⟨_, rfl⟩
      have HC := Lib.hid hc
      by_cases hc0 : cc = 0
      · subst hc0
        obtain ⟨d, hd⟩ : ∃ d, cmpI K L = d := ⟨_, rfl⟩
        have HD := Lib.hid hd
        have HE := Lib.hid (ordC_4 ha rfl hb rfl hc rfl hd)
        clear ha hb hc hd
        go_enter Tryz.func94, Tryz.ntmps94
        go_wp2
        go_quiet (first | (go_at_call 116; exact Calls.quiet_of_same ((wide_rank _ _).mono fun _ _ h => ⟨h.1, h.2.symm⟩)) | (go_at_call 115; exact Calls.quiet_of_same ((cmp_compare _ _ _).mono fun _ _ h => ⟨h.1, h.2.symm⟩)))
        rw [HA.out]
        go_wp2_with (first | (go_at_call 115; have t1 := T1; clear T1 t1; refine (cmp_compare _ _ _).mono ?_; rintro e w' ⟨rfl, rfl⟩; rw [HB.out]) | (go_at_call 117; refine (slices_compare _ _ _ _ _ _ xs ys (ints_drew h1 _) (ints_drew h2 _)).mono ?_; rintro e w' ⟨rfl, rfl⟩; rw [HC.out]) | (go_at_call 115; refine (cmp_compare _ _ _).mono ?_; rintro e w' ⟨rfl, rfl⟩; rw [HD.out]))
        go_ret
        exact ⟨ret1 (vint HE.out.symm), order_end _ _ _ _⟩
      · have HE := Lib.hid (ordC_3 (K := K) (L := L) ha rfl hb rfl hc hc0)
        have q1 : (cc != 0) = true := by simpa using hc0
        have q2 : (cc == 0) = false := by simpa using hc0
        have HD := Lib.hid (rfl : cmpI K L = cmpI K L)
        clear ha hb hc hc0
        go_enter Tryz.func94, Tryz.ntmps94
        go_wp2
        go_quiet (first | (go_at_call 116; exact Calls.quiet_of_same ((wide_rank _ _).mono fun _ _ h => ⟨h.1, h.2.symm⟩)) | (go_at_call 115; exact Calls.quiet_of_same ((cmp_compare _ _ _).mono fun _ _ h => ⟨h.1, h.2.symm⟩)))
        rw [HA.out]
        go_wp2_with (first | (go_at_call 115; have t1 := T1; clear T1 t1; refine (cmp_compare _ _ _).mono ?_; rintro e w' ⟨rfl, rfl⟩; rw [HB.out]) | (go_at_call 117; refine (slices_compare _ _ _ _ _ _ xs ys (ints_drew h1 _) (ints_drew h2 _)).mono ?_; rintro e w' ⟨rfl, rfl⟩; rw [HC.out]) | (go_at_call 115; refine (cmp_compare _ _ _).mono ?_; rintro e w' ⟨rfl, rfl⟩; rw [HD.out]))
        go_ret
        exact ⟨ret1 (vint HE.out.symm), order_end _ _ _ _⟩
    · have HE := Lib.hid (ordC_2 (xs := xs) (K := K) (ys := ys) (L := L) ha rfl hb hb0)
      have q1 : (b != 0) = true := by simpa using hb0
      have q2 : (b == 0) = false := by simpa using hb0
      clear ha hb hb0
      go_enter Tryz.func94, Tryz.ntmps94
      go_wp2
      go_quiet (first | (go_at_call 116; exact Calls.quiet_of_same ((wide_rank _ _).mono fun _ _ h => ⟨h.1, h.2.symm⟩)) | (go_at_call 115; exact Calls.quiet_of_same ((cmp_compare _ _ _).mono fun _ _ h => ⟨h.1, h.2.symm⟩)))
      rw [HA.out]
      go_wp2_with (go_at_call 115; refine (cmp_compare _ _ _).mono ?_; rintro e w' ⟨rfl, rfl⟩; rw [HB.out])
      go_ret
      exact ⟨ret1 (vint HE.out.symm), order_end _ _ _ _⟩
  · have HE := Lib.hid (ordC_1 (M := M) (xs := xs) (K := K) (M' := M') (ys := ys) (L := L) ha ha0)
    have q1 : (a != 0) = true := by simpa using ha0
    have q2 : (a == 0) = false := by simpa using ha0
    clear ha ha0
    go_enter Tryz.func94, Tryz.ntmps94
    go_wp2
    go_quiet (first | (go_at_call 116; exact Calls.quiet_of_same ((wide_rank _ _).mono fun _ _ h => ⟨h.1, h.2.symm⟩)) | (go_at_call 115; exact Calls.quiet_of_same ((cmp_compare _ _ _).mono fun _ _ h => ⟨h.1, h.2.symm⟩)))
    rw [HA.out]
    go_wp2
    go_ret
    exact ⟨ret1 (vint HE.out.symm), order_end _ _ _ _⟩
end Go.Proofs.YtkgnlloioaobiaaGreat

/-
  wide.equal and wide.sameSlope.
-/
namespace Go.Proofs.YtkgnlloioaobiaaGreat
open Go.RowKit Go.Sort
set_option linter.unusedVariables false
set_option maxRecDepth 100000
set_option linter.unusedSimpArgs false

theorem equal_end (w : World) (o o' : Obj) (n : Nat) (os : Array Obj) : ∃ q os', grow (((w.alloc o).alloc o').drewN n) os = grow (w.drewN q) os' :=
  ⟨n, #[o, o'] ++ os, by rw [alloc_eq_grow, alloc_eq_grow, grow_grow, ← grow_grow (w.drewN n)]; rfl⟩

set_option maxHeartbeats 1000000 in
theorem wide_equal (q M : Int) (A : Option Addr) (n c : Nat) (K : Int) (xs : List Int) (q' M' : Int) (A' : Option Addr) (c' : Nat) (L : Int) (ys : List Int) (w : World) (hI : IntsAt w A n xs) (hI' : IntsAt w A' n ys) :
    Calls Tryz.prog 122 #[condV q M A n c K, condV q' M' A' n c' L] w fun e w' => e = .returned (.bool (ordC q M xs K q' M' ys L == 0)) ∧ ∃ q os', w' = grow (w.drewN q) os' := by
  have b1 := below_alloc w (.cells #[.int .i64 q, .int .i64 M, .slice A n c, .int .i64 K] 56)
  have hB := below_step b1 (below_alloc _ (.cells #[.int .i64 q', .int .i64 M', .slice A' n c', .int .i64 L] 56))
  have h1 := hI.step hB
  have h2 := hI'.step hB
  clear hI hI' b1
  go_enter Tryz.func122, Tryz.ntmps122
  go_wp2_with (go_at_call 94; refine (wide_order q M A n c K xs q' M' A' c' L ys _ h1 h2).mono ?_; rintro e w1 ⟨rfl, k, os, rfl⟩)
  go_ret
  exact ⟨rfl, equal_end _ _ _ _ _⟩
theorem drew2 (w : World) (a b : Nat) : (w.drewN a).drewN b = w.drewN (a + b) := by simp [World.drewN, Nat.add_assoc]
theorem list_at {xs ys : List Int} {n : Nat} (hl : xs.length = n) (hl' : ys.length = n) (h : ∀ j, j < n → xs[j]?.getD 0 = ys[j]?.getD 0) : xs = ys := by
  apply List.ext_getElem (by omega)
  intro i h1 h2
  have := h i (by omega)
  simpa [h1, h2] using this

set_option maxHeartbeats 1000000 in
theorem slices_equal (w : World) (A A' : Option Addr) (n c c' : Nat) (xs ys : List Int) (h : IntsAt w A n xs) (h' : IntsAt w A' n ys) :
    Calls Tryz.prog 145 #[.slice A n c, .slice A' n c'] w fun e w' => e = .returned (.bool (decide (xs = ys))) ∧ ∃ q, w' = w.drewN q := by
  have HL := Lib.hid h.len
  have HL' := Lib.hid h'.len
  have hsm := h.small
  go_enter Tryz.func145, Tryz.ntmps145
  go_wp2
  go_loopw [13] (fun v wr => ∃ i : Nat, i ≤ n ∧ v = .int .i64 i ∧ (∀ j, j < i → xs[j]?.getD 0 = ys[j]?.getD 0) ∧ ∃ q, wr = w.drewN q) (fun v _ => n - (intOf v).toNat)
  case atStart => exact ⟨0, Nat.zero_le _, rfl, (fun j h => absurd h (by omega)), 0, rfl⟩
  case round =>
    obtain ⟨i, hi, rfl, hg, q, rfl⟩ := hrel
    have HG := Lib.hid hg
    clear hg
    by_cases hlt : i < n
    · obtain ⟨b, off, rfl, hb, hc⟩ := h.cells (by omega)
      obtain ⟨b', off', rfl, hb', hc'⟩ := h'.cells (by omega)
      have hcell := hc i hlt
      have hcell' := hc' i hlt
      have hq1 : (i : Int) < n := by omega
      clear hc hc'
      by_cases he : xs[i]?.getD 0 = ys[i]?.getD 0
      · have HE := Lib.hid he
        have q1 : (xs[i]?.getD 0 != ys[i]?.getD 0) = false := by simpa using he
        have q2 : (xs[i]?.getD 0 == ys[i]?.getD 0) = true := by simpa using he
        clear he
        go_wp2
        go_quiet (fail)
        go_wp2
        go_roundw
        case rel => exact ⟨i + 1, by omega, by go_num, (fun j hj => by
          rcases Nat.lt_or_eq_of_le (Nat.le_of_lt_succ hj) with h | rfl
          · exact HG.out j h
          · exact HE.out), _, by first | rfl | exact drew2 _ _ _⟩
        case measure => simp [intOf]; omega
      · have HR := Lib.hid (show decide (xs = ys) = false from decide_eq_false fun e => he (by rw [e]))
        have q1 : (xs[i]?.getD 0 != ys[i]?.getD 0) = true := by simpa using he
        have q2 : (xs[i]?.getD 0 == ys[i]?.getD 0) = false := by simpa using he
        clear he
        go_wp2
        go_quiet (fail)
        go_wp2
        go_ret
        exact ⟨ret_bool HR.out.symm, _, drew2 _ _ _⟩
    · have hge : ¬ ((i : Int) < n) := by omega
      have HR := Lib.hid (show decide (xs = ys) = true from decide_eq_true (list_at HL.out HL'.out fun j hj => HG.out j (by omega)))
      go_wp2
      go_ret
      exact ⟨ret_bool HR.out.symm, _, rfl⟩

theorem slope_end (w : World) (o o' : Obj) (n : Nat) : ∃ q os', ((w.alloc o).alloc o').drewN n = grow (w.drewN q) os' :=
  ⟨n, #[o, o'], by rw [alloc_eq_grow, alloc_eq_grow, grow_grow]; rfl⟩

set_option maxHeartbeats 1000000 in
theorem same_slope (q M : Int) (A : Option Addr) (n c : Nat) (K : Int) (xs : List Int) (q' M' : Int) (A' : Option Addr) (c' : Nat) (L : Int) (ys : List Int) (w : World) (hI : IntsAt w A n xs) (hI' : IntsAt w A' n ys) :
    Calls Tryz.prog 120 #[condV q M A n c K, condV q' M' A' n c' L] w fun e w' => e = .returned (.bool (decide (xs = ys))) ∧ ∃ q os', w' = grow (w.drewN q) os' := by
  have b1 := below_alloc w (.cells #[.int .i64 q, .int .i64 M, .slice A n c, .int .i64 K] 56)
  have hB := below_step b1 (below_alloc _ (.cells #[.int .i64 q', .int .i64 M', .slice A' n c', .int .i64 L] 56))
  have h1 := hI.step hB
  have h2 := hI'.step hB
  have B1 := (CBox.new w q M A n c K).alloc (.cells #[.int .i64 q', .int .i64 M', .slice A' n c', .int .i64 L] 56)
  have B2 := CBox.new (w.alloc (.cells #[.int .i64 q, .int .i64 M, .slice A n c, .int .i64 K] 56)) q' M' A' n c' L
  rw [World.size_alloc] at B2
  have c2 := B1.c2
  have d2 := B2.c2
  clear hI hI' b1
  go_enter Tryz.func120, Tryz.ntmps120
  go_wp2_with (go_at_call 145; refine (slices_equal _ _ _ _ _ _ xs ys h1 h2).mono ?_; rintro e w1 ⟨rfl, k, rfl⟩)
  go_ret
  exact ⟨rfl, slope_end _ _ _ _⟩
end Go.Proofs.YtkgnlloioaobiaaGreat

/-
  wide.find and slices.BinarySearchFunc at conditions, by what they compare.
-/
namespace Go.Proofs.YtkgnlloioaobiaaGreat
open Go.RowKit
set_option linter.unusedVariables false
set_option maxRecDepth 100000
set_option linter.unusedSimpArgs false

def sgnL (s : Int) (xs : List Int) : List Int := xs.map (s * ·)
theorem sgn_len (s : Int) (xs : List Int) : (sgnL s xs).length = xs.length := by simp [sgnL]
theorem sgn_get (s : Int) (xs : List Int) (i : Nat) : (sgnL s xs)[i]?.getD 0 = s * xs[i]?.getD 0 := by
  unfold sgnL
  rw [List.getElem?_map]
  cases xs[i]? with
  | none => simp
  | some x => rfl
theorem IBox.drewN {w : World} {b : Nat} {s : Int} (h : IBox w b s) (q : Nat) : IBox (w.drewN q) b s := h

set_option maxHeartbeats 2000000 in
theorem find_cmp (q M : Int) (A : Option Addr) (n c : Nat) (K : Int) (xs : List Int) (B : Option Addr) (cB : Nat) (ys : List Int) (b : Nat) (s : Int) (hs : s = 1 ∨ s = -1) (hy : ∀ y ∈ ys, -4611686018427387904 ≤ y ∧ y ≤ 4611686018427387904) (w : World) (hI : IntsAt w A n xs) (hJ : IntsAt w B n ys) (hb : IBox w b s) :
    Calls Tryz.prog 158 #[condV q M A n c K, .slice B n cB, .pointer (some ⟨b, 0, none⟩)] w fun e w' => e = .returned (.int .i64 (ordL xs (sgnL s ys))) ∧ Below w.heap.size w w' := by
  have hB := below_alloc w (.cells #[.int .i64 q, .int .i64 M, .slice A n c, .int .i64 K] 56)
  have h1 := hI.step hB
  have h2 := hJ.step hB
  have B1 := CBox.new w q M A n c K
  have S1 := hb.step hB
  have c2 := B1.c2
  have s0 := S1.c
  have HL := Lib.hid hI.len
  have HL' := Lib.hid hJ.len
  have HY := Lib.hid hy
  have HS := Lib.hid hs
  have hsm := hI.small
  clear hy hs hI hJ hb
  go_enter Tryz.func158, Tryz.ntmps158
  go_wp2
  generalize hw0 : w.alloc (.cells #[.int .i64 q, .int .i64 M, .slice A n c, .int .i64 K] 56) = w0 at *
  clear hw0 B1 c2 s0
  go_loopw [12] (fun v wr => ∃ i : Nat, i ≤ n ∧ v = .int .i64 i ∧ (∀ j, j < i → xs[j]?.getD 0 = (sgnL s ys)[j]?.getD 0) ∧ ∃ k, wr = w0.drewN k) (fun v _ => n - (intOf v).toNat)
  case atStart => exact ⟨0, Nat.zero_le _, rfl, (fun j h => absurd h (by omega)), 0, rfl⟩
  case round =>
    obtain ⟨i, hi, rfl, hg, k, rfl⟩ := hrel
    have HG := Lib.hid hg
    have hbr : Below w.heap.size w (w0.drewN k) := below_step hB (below_of_drewN k)
    clear hg
    by_cases hlt : i < n
    · obtain ⟨b1, o1, rfl, hl1, hc1⟩ := h1.cells (by omega)
      obtain ⟨b2, o2, rfl, hl2, hc2⟩ := h2.cells (by omega)
      have hcell := hc1 i hlt
      have hcell' := hc2 i hlt
      have S2 := S1.drewN k
      have s0 := S1.c
      have hq1 : (i : Int) < n := by omega
      have hyb := HY.out _ (h2.mem hlt)
      have HO := Lib.hid (ord_at (ys := sgnL s ys) HL.out (by rw [sgn_len]; exact HL'.out) hlt HG.out)
      have HT := Lib.hid (sgn_get s ys i)
      have hsb := sign_bd HS.out hyb
      clear hc1 hc2 hyb
      generalize hxg : xs[i]?.getD 0 = x at *
      generalize hyg : ys[i]?.getD 0 = y at *
      have HXG := Lib.hid hxg
      clear hxg hyg
      have hwm : IntKind.i64.wrap (s * y) = s * y := IntWalk.i64_in _ (by omega)
      clear hsb
      obtain ⟨z, hz⟩ : ∃ z, s * y = z := ⟨_, rfl⟩
      rw [hz] at HT
      by_cases hx : x = z
      · have HX := Lib.hid hx
        have q1 : (x != s * y) = false := by rw [hz]; simpa using hx
        have q2 : (x == s * y) = true := by rw [hz]; simpa using hx
        clear hx hz
        go_wp2
        go_quiet (fail)
        go_wp2
        go_roundw
        case rel => exact ⟨i + 1, by omega, by go_num, (fun j hj => by
          rcases Nat.lt_or_eq_of_le (Nat.le_of_lt_succ hj) with h | rfl
          · exact HG.out j h
          · rw [HXG.out, HT.out]; exact HX.out), _, by first | rfl | exact drew2 _ _ _⟩
        case measure => simp [intOf]; omega
      · have q1 : (x != s * y) = true := by rw [hz]; simpa using hx
        have q2 : (x == s * y) = false := by rw [hz]; simpa using hx
        by_cases hx2 : x < z
        · have HV := Lib.hid (show ordL xs (sgnL s ys) = -1 by rw [HO.out, HT.out, if_pos hx2])
          have q3 : x < s * y := by omega
          clear hx hx2 hz
          go_wp2
          go_quiet (fail)
          go_wp2
          go_quiet (fail)
          go_wp2
          go_ret
          exact ⟨ret_i64 HV.out.symm, below_step (below_step hbr (below_of_drewN _)) (below_of_drewN _)⟩
        · have HV := Lib.hid (show ordL xs (sgnL s ys) = 1 by rw [HO.out, HT.out, if_neg hx2, if_pos (by omega)])
          have q3 : ¬ x < s * y := by omega
          clear hx hx2 hz
          go_wp2
          go_quiet (fail)
          go_wp2
          go_quiet (fail)
          go_wp2
          go_ret
          exact ⟨ret_i64 HV.out.symm, below_step (below_step hbr (below_of_drewN _)) (below_of_drewN _)⟩
    · obtain rfl : i = n := by omega
      have HV := Lib.hid (ord_end (ys := sgnL s ys) HL.out (by rw [sgn_len]; exact HL'.out) HG.out)
      have hge : ¬ ((i : Int) < i) := by omega
      go_wp2
      go_ret
      exact ⟨ret_i64 HV.out.symm, hbr⟩

/-- What a search finds. -/
def Found (els : List CEl) (t : List Int) (i : Nat) (ok : Bool) : Prop :=
  i ≤ els.length ∧ (∀ j x, j < i → els[j]? = some x → ordL x.xs t < 0) ∧ (∀ j x, i ≤ j → els[j]? = some x → 0 ≤ ordL x.xs t) ∧ (ok = true → ∃ x, els[i]? = some x ∧ ordL x.xs t = 0) ∧ (ok = false → ∀ x, els[i]? = some x → ordL x.xs t ≠ 0)

/-- The answer of a search. -/
def SearchRet (w : World) (e : Ending) (w' : World) (els : List CEl) (t : List Int) : Prop := ∃ (i : Nat) (ok : Bool), e = .returned (.tuple #[.int .i64 i, .bool ok]) ∧ Found els t i ok ∧ Below w.heap.size w w'


set_option maxHeartbeats 4000000 in
theorem conds_search {A : Option Addr} {m c n : Nat} {els : List CEl} {B : Option Addr} {cB : Nat} {ys : List Int} {b : Nat} {s : Int} (hs : s = 1 ∨ s = -1) (hy : ∀ y ∈ ys, -4611686018427387904 ≤ y ∧ y ≤ 4611686018427387904) (w : World) (C0 : CondsAt w A m els) (hn : ∀ e ∈ els, e.n = n) (hfew : m ≤ 100000) (hJ : IntsAt w B n ys) (hb : IBox w b s)
    (hmono : ∀ (i j : Nat) (x y : CEl), i < j → els[i]? = some x → els[j]? = some y → ordL y.xs (sgnL s ys) < 0 → ordL x.xs (sgnL s ys) < 0) :
    Calls Tryz.prog 157 #[.slice A m c, .slice B n cB, .func (.func 158) #[] #[.pointer (some ⟨b, 0, none⟩)]] w fun e w' => SearchRet w e w' els (sgnL s ys) := by
  have HL := Lib.hid C0.len
  have HN := Lib.hid hn
  have HM := Lib.hid hmono
  have HC := Lib.hid (fun (e : CEl) (W : World) (h1 : IntsAt W e.A e.n e.xs) (h2 : IntsAt W B n ys) (h3 : IBox W b s) (h4 : e.n = n) => (by subst h4; exact find_cmp e.q e.M e.A e.n e.c e.K e.xs B cB ys b s hs hy W h1 h2 h3 : Calls Tryz.prog 158 #[condV e.q e.M e.A e.n e.c e.K, .slice B n cB, .pointer (some ⟨b, 0, none⟩)] W fun e' w' => e' = .returned (.int .i64 (ordL e.xs (sgnL s ys))) ∧ Below W.heap.size W w'))
  clear hmono hn hs hy
  go_enter Tryz.func157, Tryz.ntmps157
  go_wp2
  go_loopg [9, 10] m (fun kx s9 s10 wr => ∃ lo hi : Nat, s9 = .int .i64 lo ∧ s10 = .int .i64 hi ∧ lo ≤ hi ∧ hi ≤ m ∧ hi - lo ≤ kx ∧ Below w.heap.size w wr ∧
    RowKit.Hid ((∀ j x, j < lo → els[j]? = some x → ordL x.xs (sgnL s ys) < 0) ∧ (∀ j x, hi ≤ j → els[j]? = some x → 0 ≤ ordL x.xs (sgnL s ys))))
  case atStart => exact ⟨0, m, rfl, rfl, Nat.zero_le _, Nat.le_refl _, by omega, Below.refl _ _, Lib.hid ((⟨fun t x ht => absurd ht (Nat.not_lt_zero _), fun t x h1 hx => by have := (List.getElem?_eq_some_iff.1 hx).1; have := HL.out; omega⟩ : (∀ j x, j < 0 → els[j]? = some x → ordL x.xs (sgnL s ys) < 0) ∧ (∀ j x, m ≤ j → els[j]? = some x → 0 ≤ ordL x.xs (sgnL s ys))))⟩
  case round =>
    obtain ⟨lo, hi, rfl, rfl, hlh, hin2, hg, hbr, I⟩ := hrel
    by_cases hlt : lo < hi
    · obtain ⟨bb, off, e, rfl, hblt, hej, hmem, hcs, hin⟩ := (C0.step hbr).at (show (lo + hi) / 2 < m by omega)
      have HEJ := Lib.hid hej
      have hc9 := HC.out e wr hin (hJ.step hbr) (hb.step hbr) (HN.out e hmem)
      obtain ⟨eq, eM, eA, en, ec, eK, exs⟩ := e
      obtain ⟨x0, x1, x2, x3⟩ := hcs; simp only at x0 x1 x2 x3 hin
      simp only at hc9
      obtain ⟨z, hz⟩ : ∃ z, ordL exs (sgnL s ys) = z := ⟨_, rfl⟩
      rw [hz] at hc9
      have HZ := Lib.hid hz
      clear hz
      by_cases hx : z < 0
      · go_wp2_with (go_at_call 158; refine hc9.mono ?_; rintro e w5 ⟨rfl, hb5⟩)
        go_roundg (hi - ((lo + hi) / 2 + 1))
        case measure => omega
        case rel => exact ⟨(lo + hi) / 2 + 1, hi, by rw [show ((lo : Int) + (hi : Int)) / 2 + 1 = (((lo + hi) / 2 + 1 : Nat) : Int) by omega], rfl, by omega, hin2, Nat.le_refl _, hbr.trans (hb5.mono hbr.size), Lib.hid ⟨fun j x hj hjx => by
          rcases Nat.lt_or_eq_of_le (Nat.le_of_lt_succ hj) with h | rfl
          · exact HM.out j _ x _ h hjx HEJ.out (by show ordL exs _ < 0; rw [HZ.out]; exact hx)
          · rw [HEJ.out] at hjx; cases hjx; show ordL exs _ < 0; rw [HZ.out]; exact hx, I.out.2⟩⟩
      · go_wp2_with (go_at_call 158; refine hc9.mono ?_; rintro e w5 ⟨rfl, hb5⟩)
        go_roundg ((lo + hi) / 2 - lo)
        case measure => omega
        case rel => exact ⟨lo, (lo + hi) / 2, rfl, by rw [show ((lo : Int) + (hi : Int)) / 2 = (((lo + hi) / 2 : Nat) : Int) by omega], by omega, by omega, Nat.le_refl _, hbr.trans (hb5.mono hbr.size), Lib.hid ⟨I.out.1, fun j x hj hjx => by
          rcases Nat.lt_or_eq_of_le hj with h | rfl
          · refine Int.not_lt.1 fun h5 => ?_
            have := HM.out _ j _ x h HEJ.out hjx h5
            have h6 : ordL exs (sgnL s ys) < 0 := this
            rw [HZ.out] at h6
            omega
          · rw [HEJ.out] at hjx; cases hjx; show 0 ≤ ordL exs _; rw [HZ.out]; omega⟩⟩
    · obtain rfl : hi = lo := by omega
      have hge : ¬ ((hi : Int) < hi) := by omega
      by_cases hlm : hi < m
      · obtain ⟨bb, off, e, rfl, hblt, hej, hmem, hcs, hin⟩ := (C0.step hbr).at hlm
        have HEJ := Lib.hid hej
        have hc9 := HC.out e wr hin (hJ.step hbr) (hb.step hbr) (HN.out e hmem)
        obtain ⟨eq, eM, eA, en, ec, eK, exs⟩ := e
        obtain ⟨x0, x1, x2, x3⟩ := hcs; simp only at x0 x1 x2 x3 hin
        simp only at hc9
        obtain ⟨z, hz⟩ : ∃ z, ordL exs (sgnL s ys) = z := ⟨_, rfl⟩
        rw [hz] at hc9
        have HZ := Lib.hid hz
        have hq1 : (hi : Int) < m := by omega
        clear hz
        by_cases hx : z = 0
        · subst hx
          go_wp2_with (go_at_call 158; refine hc9.mono ?_; rintro e w5 ⟨rfl, hb5⟩)
          go_ret2
          exact ⟨hi, true, rfl, ⟨by have := HL.out; omega, I.out.1, I.out.2, fun _ => ⟨_, HEJ.out, HZ.out⟩, fun h => nomatch h⟩, hbr.trans (hb5.mono hbr.size)⟩
        · have q1 : (z == 0) = false := by simpa using hx
          have HX := Lib.hid hx
          clear hx
          go_wp2_with (go_at_call 158; refine hc9.mono ?_; rintro e w5 ⟨rfl, hb5⟩)
          go_ret2
          exact ⟨hi, false, rfl, ⟨by have := HL.out; omega, I.out.1, I.out.2, (fun h => nomatch h), fun _ x hx => by rw [HEJ.out] at hx; cases hx; show ordL exs _ ≠ 0; rw [HZ.out]; exact HX.out⟩, hbr.trans (hb5.mono hbr.size)⟩
      · have hge2 : ¬ ((hi : Int) < m) := by omega
        go_wp2
        refine bodyPost_ret (v := .tuple #[.int .i64 hi, .bool false]) (by simp [results, Tryz.results157, go_sem]) rfl ?_
        exact ⟨hi, false, rfl, ⟨by have := HL.out; omega, I.out.1, I.out.2, (fun h => nomatch h), fun _ x hx => by have := (List.getElem?_eq_some_iff.1 hx).1; have := HL.out; omega⟩, hbr⟩

theorem ord_refl_mono {n : Nat} {els : List CEl} {t : List Int} (hl : ∀ e ∈ els, e.xs.length = n) (ht : t.length = n) (hs : ∀ (i j : Nat) (x y : CEl), i < j → els[i]? = some x → els[j]? = some y → ordL x.xs y.xs < 0) :
    ∀ (i j : Nat) (x y : CEl), i < j → els[i]? = some x → els[j]? = some y → ordL y.xs t < 0 → ordL x.xs t < 0 := by
  intro i j x y hij hx hy h
  have h1 := hs i j x y hij hx hy
  have lx := hl x (List.mem_of_getElem? hx)
  have ly := hl y (List.mem_of_getElem? hy)
  have h2 := lex_le x.xs y.xs t (by omega) (by omega) (by omega) (by omega)
  rcases Int.lt_or_eq_of_le h2 with h3 | h3
  · exact h3
  · exfalso
    have e := (lex_zero x.xs t (by omega)).1 h3
    rw [e, lex_swap] at h1
    omega

set_option maxHeartbeats 1000000 in
/-- wide.find. -/
theorem wide_find {A : Option Addr} {m c n : Nat} {els : List CEl} {B : Option Addr} {cB : Nat} {ys : List Int} {s : Int} (hs : s = 1 ∨ s = -1) (hy : ∀ y ∈ ys, -4611686018427387904 ≤ y ∧ y ≤ 4611686018427387904) (w : World) (C0 : CondsAt w A m els) (hn : ∀ e ∈ els, e.n = n) (hfew : m ≤ 100000) (hJ : IntsAt w B n ys)
    (hsort : ∀ (i j : Nat) (x y : CEl), i < j → els[i]? = some x → els[j]? = some y → ordL x.xs y.xs < 0) :
    Calls Tryz.prog 147 #[.slice A m c, .slice B n cB, .int .i64 s] w fun e w' => SearchRet w e w' els (sgnL s ys) := by
  have hb := below_alloc w (.cells #[.int .i64 s] 3)
  have C1 := C0.step hb
  have J1 := hJ.step hb
  have S1 := IBox.new w s
  have HM := Lib.hid (ord_refl_mono (els := els) (t := sgnL s ys) (n := n) (fun e he => by rw [(C0.ints e he).len]; exact hn e he) (by rw [sgn_len]; exact hJ.len) hsort)
  have HH := Lib.hid (And.intro hs (And.intro hy hn))
  clear hs hy hn hsort C0 hJ
  go_enter Tryz.func147, Tryz.ntmps147
  go_wp2_with (go_at_call 157; refine (conds_search HH.out.1 HH.out.2.1 _ C1 HH.out.2.2 hfew J1 S1 HM.out).mono ?_; rintro e w5 ⟨i, ok, rfl, hF, hb5⟩)
  go_ret2
  exact ⟨i, ok, rfl, hF, hb.trans (hb5.mono hb.size)⟩

/-- What the search has found, among conditions of unlike coefficients. -/
theorem found_yes {els : List CEl} {t : List Int} {i : Nat} (h : Found els t i true) (hl : ∀ e ∈ els, e.xs.length = t.length) : ∃ x, els[i]? = some x ∧ x ∈ els ∧ x.xs = t := by
  obtain ⟨x, hx, h0⟩ := h.2.2.2.1 rfl
  have hm := List.mem_of_getElem? hx
  exact ⟨x, hx, hm, (lex_zero _ _ (hl x hm)).1 h0⟩
theorem found_no {els : List CEl} {t : List Int} {i : Nat} (h : Found els t i false) (hl : ∀ e ∈ els, e.xs.length = t.length) (hs : ∀ (i j : Nat) (x y : CEl), i < j → els[i]? = some x → els[j]? = some y → ordL x.xs y.xs < 0) : ∀ x ∈ els, x.xs ≠ t := by
  intro x hx e
  obtain ⟨j, hj, rfl⟩ := List.getElem_of_mem hx
  have hxj := List.getElem?_eq_getElem hj
  have h0 : ordL els[j].xs t = 0 := (lex_zero _ _ (hl _ hx)).2 e
  rcases Nat.lt_trichotomy j i with h1 | h1 | h1
  · have := h.2.1 j _ h1 hxj; omega
  · subst h1; exact h.2.2.2.2 rfl _ hxj h0
  · have hi : i < els.length := by omega
    have hxi := List.getElem?_eq_getElem hi
    have h2 := hs i j _ _ h1 hxi hxj
    have h3 := h.2.2.1 i _ (Nat.le_refl _) hxi
    rw [e] at h2
    omega
end Go.Proofs.YtkgnlloioaobiaaGreat
