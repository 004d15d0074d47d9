/-
  A region that draws its order, walked by facts: each operation is shown once, out of the facts of the operations that it looks at; what is found of an operation's value stays, unless an operation writes into the memory that it speaks of (then that operation must say so, by 'kill').
-/
import Derived.Orders
import Derived.Laws.AppendOwn
import Derived.Below
namespace Go.Proofs.Ytbjkijifpikhkaa
open Go.RowKit
set_option linter.unusedVariables false

section
variable {P : Program} {ops : Array Oper} {Q : Exit → Act → World → Prop}

/-- Operation i comes after operation j in every order. -/
def tied (ops : Array Oper) (i j : Nat) : Bool := match ops[i]? with | some o => o.after.any (fun e => e.on == j && Region.binds .any e) | none => false

/-- Every edge that binds leads to an earlier operation of the text. -/
def early (ops : Array Oper) : Bool := (List.range ops.size).all fun i => match ops[i]? with | some o => o.after.all (fun e => !Region.binds .any e || decide (e.on < i)) | none => true

theorem ready_of {listed : Array Bool} {i : Nat} (h : i ∈ Region.ready .any ops listed) :
    i < ops.size ∧ listed.getD i true = false ∧ ∀ j, tied ops i j = true → listed.getD j false = true := by
  unfold Region.ready at h
  simp only [List.mem_filter, List.mem_range, Bool.and_eq_true, Bool.not_eq_true'] at h
  refine ⟨h.1, h.2.1, fun j hj => ?_⟩
  have h2 := h.2.2
  unfold tied at hj
  cases ho : ops[i]? with
  | none => rw [ho] at hj; cases hj
  | some o =>
    rw [ho] at hj h2
    simp only [Option.map_some, Option.getD_some] at h2
    simp only at hj
    rw [Array.any_eq_true] at hj
    rw [Array.all_eq_true] at h2
    obtain ⟨k, hk, hb⟩ := hj
    have := h2 k hk
    simp only [Bool.and_eq_true, beq_iff_eq] at hb
    rw [hb.2, hb.1] at this
    simpa using this

theorem ready_all (he : early ops = true) {listed : Array Bool} (hs : listed.size = ops.size) (hr : Region.ready .any ops listed = []) : ∀ i, i < ops.size → listed.getD i false = true := by
  intro i
  induction i using Nat.strongRecOn with
  | _ i ih =>
    intro hi
    have hnot : i ∉ Region.ready .any ops listed := by rw [hr]; simp
    unfold Region.ready at hnot
    simp only [List.mem_filter, List.mem_range, Bool.and_eq_true, Bool.not_eq_true'] at hnot
    have hl : i < listed.size := by omega
    cases hb : listed.getD i false with
    | true => rfl
    | false =>
      exfalso
      apply hnot
      have hb2 : listed.getD i true = false := by
        simp only [Array.getD_eq_getD_getElem?, Array.getElem?_eq_getElem hl, Option.getD_some] at hb ⊢; exact hb
      refine ⟨hi, hb2, ?_⟩
      rw [Array.getElem?_eq_getElem hi]
      simp only [Option.map_some, Option.getD_some]
      rw [Array.all_eq_true]
      intro k hk
      have hea : (!Region.binds .any (ops[i]).after[k] || decide ((ops[i]).after[k].on < i)) = true := by
        unfold early at he
        rw [List.all_eq_true] at he
        have h1 := he i (List.mem_range.2 hi)
        rw [Array.getElem?_eq_getElem hi] at h1
        simp only at h1
        rw [Array.all_eq_true] at h1
        exact h1 k hk
      cases hbd : Region.binds .any (ops[i]).after[k] with
      | false => rfl
      | true =>
        rw [hbd] at hea
        have hlt : (ops[i]).after[k].on < i := by simpa using hea
        have := ih _ hlt (by omega)
        rw [this]; rfl

theorem none_listed (n j : Nat) : (Array.replicate n false).getD j false = false := by
  simp only [Array.getD_eq_getD_getElem?, Array.getElem?_replicate]
  split <;> rfl

/-- How many are not listed yet. -/
def left (listed : Array Bool) : Nat := (listed.toList.filter (fun b => !b)).length

end

/-- What is known of an operation's value: a fact, and the blocks that it speaks of. -/
structure Fact (B : Nat) where
  holds : Value → World → Prop
  foot : Value → World → Nat → Prop
  stay : ∀ {v : Value} {w w' : World} {row : Option Nat}, holds v w → w.grownBy w' row → (∀ b, foot v w b → row ≠ some b) → holds v w' ∧ ∀ b, foot v w' b → foot v w b
  lt : ∀ {v : Value} {w : World} {b : Nat}, holds v w → foot v w b → B ≤ b ∧ b < w.heap.size

/-- The plan of a region: the slot that each operation's fact speaks of, the operations whose blocks it takes over, and those that it looks at. -/
structure Plan where
  slots : List Nat
  kill : List (List Nat)
  need : List (List Nat)

def Plan.slot (p : Plan) (i : Nat) : Nat := p.slots.getD i 0
def Plan.kills (p : Plan) (i : Nat) : List Nat := p.kill.getD i []
def Plan.needs (p : Plan) (i : Nat) : List Nat := p.need.getD i []

def dstOf (ops : Array Oper) (i : Nat) : Option Nat := match ops[i]? with | some o => o.dst | none => none

def Plan.fits (p : Plan) (ops : Array Oper) (sz : Nat) : Bool :=
  early ops && (List.range ops.size).all fun i =>
    (match ops[i]? with | some o => (o.dst == none || o.dst == some (p.slot i)) && o.guard.isNone | none => false) && decide (p.slot i < sz) &&
    (List.range ops.size).all (fun j => i == j || dstOf ops i != some (p.slot j) || tied ops j i) &&
    (p.needs i).all (fun j => decide (j < ops.size) && tied ops i j && (List.range ops.size).all fun i' => (!(p.kills i').contains j) || i' == i) &&
    (p.kills i).all (fun j => (p.needs i).contains j)

section
variable {P : Program} {ops : Array Oper} {Q : Exit → Act → World → Prop} {B : Nat}

/-- What one operation leaves: its fact, and a world that has grown but for a row that the operation took over. -/
def Step (fact : Nat → Fact B) (p : Plan) (S : World → Prop) (i : Nat) (o : Oper) (a : Act) (w : World) : Act → World → Prop := fun a' w' =>
  ∃ v row, a' = a.put o.dst v ∧ S w' ∧ (fact i).holds (a'.tmps.getD (p.slot i) undef) w' ∧ w.grownBy w' row ∧
    (∀ b, row = some b → ∃ j, j ∈ p.kills i ∧ (fact j).foot (a.tmps.getD (p.slot j) undef) w b) ∧
    (∀ b, (fact i).foot (a'.tmps.getD (p.slot i) undef) w' b → w.heap.size ≤ b ∨ ∃ j, j ∈ p.kills i ∧ (fact j).foot (a.tmps.getD (p.slot j) undef) w b)

/-- Operation j has come up and nobody has taken its blocks over. -/
def Live (ops : Array Oper) (p : Plan) (listed : Array Bool) (j : Nat) : Prop :=
  j < ops.size ∧ listed.getD j false = true ∧ ∀ i, i < ops.size → j ∈ p.kills i → listed.getD i false = false

structure RegInv (ops : Array Oper) (fact : Nat → Fact B) (p : Plan) (S : World → Prop) (a0 : Act) (listed : Array Bool) (a : Act) (w : World) : Prop where
  size : listed.size = ops.size
  base : S w
  len : a.tmps.size = a0.tmps.size
  defs : a.defers = a0.defers
  old : ∀ k, (∀ i, i < ops.size → p.slot i ≠ k) → a.tmps[k]? = a0.tmps[k]?
  order : ∀ j i, j < ops.size → listed.getD j false = true → tied ops j i = true → listed.getD i false = true
  facts : ∀ j, Live ops p listed j → (fact j).holds (a.tmps.getD (p.slot j) undef) w
  apart : ∀ j k b, j ≠ k → Live ops p listed j → Live ops p listed k → (fact j).foot (a.tmps.getD (p.slot j) undef) w b → (fact k).foot (a.tmps.getD (p.slot k) undef) w b → False

variable {fact : Nat → Fact B} {p : Plan} {S : World → Prop} {a0 : Act}

theorem listed_set {listed : Array Bool} {i : Nat} (hi : i < listed.size) (k : Nat) : (listed.setIfInBounds i true).getD k false = if i = k then true else listed.getD k false := by
  simp only [Array.getD_eq_getD_getElem?]
  by_cases h : i = k
  · subst h; simp [hi]
  · simp [h]

theorem tmps_other {a : Act} {dst : Option Nat} {v : Value} {k : Nat} (h : dst ≠ some k) : (a.put dst v).tmps[k]? = a.tmps[k]? := by
  cases dst with
  | none => rfl
  | some d => exact Array.getElem?_setIfInBounds_ne (fun e => h (by rw [e]))

theorem put_len (a : Act) (dst : Option Nat) (v : Value) : (a.put dst v).tmps.size = a.tmps.size := by
  cases dst <;> simp [Act.put]
theorem put_defs (a : Act) (dst : Option Nat) (v : Value) : (a.put dst v).defers = a.defers := by
  cases dst <;> rfl

theorem RegInv.step {listed : Array Bool} {a : Act} {w : World} {i : Nat} {o : Oper} (h : RegInv ops fact p S a0 listed a w) (hi : i < ops.size) (ho : o.dst = none ∨ o.dst = some (p.slot i)) (hu : listed.getD i false = false)
    (hother : ∀ j, j < ops.size → j ≠ i → listed.getD j false = true → o.dst ≠ some (p.slot j))
    (hfore : ∀ j, tied ops i j = true → listed.getD j false = true)
    (hk : ∀ j, j ∈ p.kills i → j < ops.size ∧ listed.getD j false = true ∧ ∀ i', i' < ops.size → j ∈ p.kills i' → i' = i)
    {a' : Act} {w' : World} (hst : Step fact p S i o a w a' w') : RegInv ops fact p S a0 (listed.setIfInBounds i true) a' w' := by
  obtain ⟨v, row, rfl, hS, hFi, hg, hrow, hfoot⟩ := hst
  have hil : i < listed.size := by rw [h.size]; exact hi
  have hsame : ∀ j, j < ops.size → j ≠ i → listed.getD j false = true → (a.put o.dst v).tmps.getD (p.slot j) undef = a.tmps.getD (p.slot j) undef := by
    intro j hj hne hl
    simp only [Array.getD_eq_getD_getElem?, tmps_other (hother j hj hne hl)]
  -- a victim is live
  have live : ∀ j, j ∈ p.kills i → j ≠ i ∧ Live ops p listed j := by
    intro j hj
    obtain ⟨h1, h2, h3⟩ := hk j hj
    refine ⟨fun e => (by rw [e, hu] at h2; cases h2), h1, h2, fun i' hi' hk' => (by rw [h3 i' hi' hk']; exact hu)⟩
  -- what is live afterwards and is not i was live, and i did not take it over
  have back : ∀ j, j ≠ i → Live ops p (listed.setIfInBounds i true) j → Live ops p listed j ∧ j ∉ p.kills i := by
    rintro j hj ⟨h0, h1, h2⟩
    rw [listed_set hil, if_neg (fun e => hj e.symm)] at h1
    refine ⟨⟨h0, h1, fun i' hi' hk' => ?_⟩, fun e => ?_⟩
    · have := h2 i' hi' hk'
      rw [listed_set hil] at this
      split at this
      · cases this
      · exact this
    · have := h2 i hi e
      rw [listed_set hil, if_pos rfl] at this
      cases this
  have kept : ∀ j, j ≠ i → Live ops p listed j → j ∉ p.kills i → (fact j).holds (a.tmps.getD (p.slot j) undef) w' ∧ ∀ b, (fact j).foot (a.tmps.getD (p.slot j) undef) w' b → (fact j).foot (a.tmps.getD (p.slot j) undef) w b := by
    intro j hne hl hnk
    refine (fact j).stay (h.facts j hl) hg fun b hb hr => ?_
    obtain ⟨j', hj', hf⟩ := hrow b hr
    exact h.apart j j' b (fun e => hnk (e ▸ hj')) hl (live j' hj').2 hb hf
  refine ⟨by simp [h.size], hS, ?_, ?_, ?_, ?_, ?_, ?_⟩
  · rw [put_len]; exact h.len
  · rw [put_defs]; exact h.defs
  · intro k hkk
    rw [tmps_other (fun e => ?_)]
    · exact h.old k hkk
    · rcases ho with e' | e'
      · rw [e'] at e; cases e
      · rw [e'] at e; exact hkk i hi (Option.some.inj e)
  · intro j k hj hl ht
    rw [listed_set hil] at hl ⊢
    split
    · rfl
    · split at hl
      · rename_i e; subst e; exact hfore k ht
      · exact h.order j k hj hl ht
  · intro j hj
    by_cases e : j = i
    · subst e; exact hFi
    · obtain ⟨b1, b2⟩ := back j e hj
      rw [hsame j b1.1 e b1.2.1]
      exact (kept j e b1 b2).1
  · have one : ∀ k b, k ≠ i → Live ops p (listed.setIfInBounds i true) k → (fact i).foot ((a.put o.dst v).tmps.getD (p.slot i) undef) w' b → (fact k).foot ((a.put o.dst v).tmps.getD (p.slot k) undef) w' b → False := by
      intro k b hne hl hb hbk
      obtain ⟨b1, b2⟩ := back k hne hl
      rw [hsame k b1.1 hne b1.2.1] at hbk
      have hbk' := (kept k hne b1 b2).2 b hbk
      rcases hfoot b hb with hge | ⟨j', hj', hf⟩
      · have := ((fact k).lt (h.facts k b1) hbk').2
        omega
      · exact h.apart k j' b (fun e => b2 (e ▸ hj')) b1 (live j' hj').2 hbk' hf
    intro j k b hne hj hk' hfj hfk
    by_cases ej : j = i
    · subst ej
      exact one k b (fun e => hne e.symm) hk' hfj hfk
    · by_cases ek : k = i
      · subst ek
        exact one j b hne hj hfk hfj
      · obtain ⟨b1, b2⟩ := back j ej hj
        obtain ⟨c1, c2⟩ := back k ek hk'
        rw [hsame j b1.1 ej b1.2.1] at hfj
        rw [hsame k c1.1 ek c1.2.1] at hfk
        exact h.apart j k b hne b1 c1 ((kept j ej b1 b2).2 b hfj) ((kept k ek c1 c2).2 b hfk)

theorem left_set {listed : Array Bool} {i : Nat} (hi : i < listed.size) (hu : listed.getD i false = false) : left (listed.setIfInBounds i true) + 1 = left listed := by
  unfold left
  obtain ⟨l⟩ := listed
  simp only [List.size_toArray] at hi
  simp only [Array.getD_eq_getD_getElem?, List.getElem?_toArray] at hu
  simp only [List.setIfInBounds_toArray]
  induction l generalizing i with
  | nil => simp at hi
  | cons b l ih =>
    cases i with
    | zero => simp at hu; subst hu; simp
    | succ i =>
      simp only [List.getElem?_cons_succ] at hu
      have := ih (by simpa using hi) hu
      simp only [List.set_cons_succ, List.filter_cons]
      split <;> simp_all <;> omega

theorem left_zero {listed : Array Bool} (h : left listed = 0) : ∀ i, listed.getD i true = true := by
  intro i
  unfold left at h
  have h' := List.eq_nil_of_length_eq_zero h
  rw [List.filter_eq_nil_iff] at h'
  simp only [Array.getD_eq_getD_getElem?]
  cases e : listed[i]? with
  | none => rfl
  | some b =>
    have hm : b ∈ listed.toList := by
      rw [← Array.getElem?_toList] at e
      exact List.mem_of_getElem? e
    have := h' b hm
    cases b
    · simp at this
    · rfl

theorem wpAny_facts (hd : ∀ i o, ops[i]? = some o → (o.dst = none ∨ o.dst = some (p.slot i)) ∧ o.guard = none)
    (hother : ∀ i j o, ops[i]? = some o → j < ops.size → i ≠ j → o.dst = some (p.slot j) → tied ops j i = true)
    (he : early ops = true)
    (hneed : ∀ i j, i < ops.size → j ∈ p.needs i → j < ops.size ∧ tied ops i j = true ∧ ∀ i', i' < ops.size → j ∈ p.kills i' → i' = i)
    (hkill : ∀ i j, i < ops.size → j ∈ p.kills i → j ∈ p.needs i)
    (hstep : ∀ i o a w, ops[i]? = some o → S w → (∀ k, (∀ i, i < ops.size → p.slot i ≠ k) → a.tmps[k]? = a0.tmps[k]?) → (∀ j, j ∈ p.needs i → (fact j).holds (a.tmps.getD (p.slot j) undef) w) →
      (∀ j k b, j ∈ p.needs i → k ∈ p.needs i → j ≠ k → (fact j).foot (a.tmps.getD (p.slot j) undef) w b → (fact k).foot (a.tmps.getD (p.slot k) undef) w b → False) → a.tmps.size = a0.tmps.size →
      o.wp P a w (Step fact p S i o a w) Q)
    (hend : ∀ a w, S w → a.tmps.size = a0.tmps.size → a.defers = a0.defers → (∀ k, (∀ i, i < ops.size → p.slot i ≠ k) → a.tmps[k]? = a0.tmps[k]?) →
      (∀ j, j < ops.size → (∀ i, i < ops.size → j ∉ p.kills i) → (fact j).holds (a.tmps.getD (p.slot j) undef) w) → Q .normal a w) :
    ∀ (fuel : Nat) (listed : Array Bool) (a : Act) (w : World), left listed = fuel → RegInv ops fact p S a0 listed a w → wpAny P .any ops Q fuel listed a w := by
  intro fuel
  have fin : ∀ (listed : Array Bool) (a : Act) (w : World), Region.ready .any ops listed = [] → RegInv ops fact p S a0 listed a w → Q .normal a w := by
    intro listed a w hr h
    have hall := ready_all he h.size hr
    exact hend a w h.base h.len h.defs h.old fun j hj hnk => h.facts j ⟨hj, hall j hj, fun i hi e => absurd e (hnk i hi)⟩
  induction fuel with
  | zero =>
    intro listed a w hl h
    have hr : Region.ready .any ops listed = [] := by
      unfold Region.ready
      rw [List.filter_eq_nil_iff]
      intro i _
      rw [left_zero hl i]
      simp
    exact ⟨hr, fin listed a w hr h⟩
  | succ fuel ih =>
    intro listed a w hl h
    refine ⟨fun hr => fin listed a w hr h, fun i hi => ?_⟩
    obtain ⟨h1, h2, h3⟩ := ready_of hi
    have hil : i < listed.size := by rw [h.size]; exact h1
    have hu : listed.getD i false = false := by
      simp only [Array.getD_eq_getD_getElem?, Array.getElem?_eq_getElem hil, Option.getD_some] at h2 ⊢; exact h2
    have ho : ops[i]? = some ops[i] := Array.getElem?_eq_getElem h1
    obtain ⟨hdst, hgd⟩ := hd i _ ho
    unfold wpOp
    rw [ho]
    simp only
    have hw : Region.wanted ops[i] (yielded ops a.tmps) = true := by simp [Region.wanted, hgd]
    rw [if_pos hw]
    have hlive : ∀ j, j ∈ p.needs i → Live ops p listed j := fun j hj => by
      obtain ⟨n1, n2, n3⟩ := hneed i j h1 hj
      exact ⟨n1, h3 j n2, fun i' hi' hk' => by rw [n3 i' hi' hk']; exact hu⟩
    refine .inl (Oper.wp_mono (fun a' w' hst => ?_) (hstep i _ a w ho h.base h.old (fun j hj => h.facts j (hlive j hj)) (fun j k b hj hk hne => h.apart j k b hne (hlive j hj) (hlive k hk)) h.len))
    refine ih _ a' w' ?_ (h.step h1 hdst hu (fun j hj hne hjl e => ?_) h3 (fun j hj => ?_) hst)
    · have := left_set hil hu; omega
    · have ht := hother i j _ ho hj (fun e' => hne e'.symm) e
      have := h.order j i hj hjl ht
      rw [hu] at this; cases this
    · obtain ⟨n1, n2, n3⟩ := hneed i j h1 (hkill i j h1 hj)
      exact ⟨n1, h3 j n2, n3⟩

def holdsAll (fact : Nat → Fact B) (p : Plan) (a : Act) (w : World) : List Nat → Prop
  | [] => True
  | j :: l => (fact j).holds (a.tmps.getD (p.slot j) undef) w ∧ holdsAll fact p a w l

theorem holdsAll_of {a : Act} {w : World} : ∀ {l : List Nat}, (∀ j, j ∈ l → (fact j).holds (a.tmps.getD (p.slot j) undef) w) → holdsAll fact p a w l
  | [], _ => trivial
  | j :: l, h => ⟨h j List.mem_cons_self, holdsAll_of fun k hk => h k (List.mem_cons_of_mem _ hk)⟩

/-- The blocks of what operation i looks at are apart. -/
def Apart (fact : Nat → Fact B) (p : Plan) (a : Act) (w : World) (i : Nat) : Prop :=
  ∀ j k b, j ∈ p.needs i → k ∈ p.needs i → j ≠ k → (fact j).foot (a.tmps.getD (p.slot j) undef) w b → (fact k).foot (a.tmps.getD (p.slot k) undef) w b → False

/-- The operations from number i on, each shown once. -/
def stepsFrom (P : Program) (Q : Exit → Act → World → Prop) (p : Plan) (fact : Nat → Fact B) (S : World → Prop) (a0 : Act) : Nat → List Oper → Prop
  | _, [] => True
  | i, o :: l => (∀ a w, S w → (∀ k, p.slots.contains k = false → a.tmps.getD k undef = a0.tmps.getD k undef) → holdsAll fact p a w (p.needs i) → Apart fact p a w i → a.tmps.size = a0.tmps.size →
      o.wp P a w (Step fact p S i o a w) Q) ∧ stepsFrom P Q p fact S a0 (i + 1) l

theorem stepsFrom_at : ∀ {l : List Oper} {n : Nat}, stepsFrom P Q p fact S a0 n l → ∀ {i : Nat} {o : Oper}, l[i]? = some o →
    ∀ a w, S w → (∀ k, p.slots.contains k = false → a.tmps.getD k undef = a0.tmps.getD k undef) → holdsAll fact p a w (p.needs (n + i)) → Apart fact p a w (n + i) → a.tmps.size = a0.tmps.size →
      o.wp P a w (Step fact p S (n + i) o a w) Q
  | [], _, _, i, o, ho => by simp at ho
  | x :: l, n, h, i, o, ho => by
    cases i with
    | zero => simp at ho; subst ho; exact h.1
    | succ i =>
      simp only [List.getElem?_cons_succ] at ho
      have := stepsFrom_at h.2 ho
      rwa [show n + 1 + i = n + (i + 1) by omega] at this

/-- THE RULE: a region that draws its order, by the facts of its operations. -/
theorem wp_region_plan {id : Nat} {w : World} (hm : P.follows .mixedOrders = true) (p : Plan) (fact : Nat → Fact B) (S : World → Prop)
    (hc : p.fits ops a0.tmps.size = true) (hslots : p.slots.length = ops.size) (h0 : S w.drew) (hstep : stepsFrom P Q p fact S a0 0 ops.toList)
    (hend : ∀ a w, S w → a.tmps.size = a0.tmps.size → a.defers = a0.defers → (∀ k, p.slots.contains k = false → a.tmps.getD k undef = a0.tmps.getD k undef) → (∀ j, j < ops.size → (∀ i, i < ops.size → j ∉ p.kills i) → (fact j).holds (a.tmps.getD (p.slot j) undef) w) → Q .normal a w) :
    (Code.region id ops true).wp P Q a0 w := by
  unfold Plan.fits at hc
  rw [Bool.and_eq_true, List.all_eq_true] at hc
  obtain ⟨he, hc⟩ := hc
  have hc' : ∀ i, i < ops.size → _ := fun i hi => hc i (List.mem_range.2 hi)
  simp only [Bool.and_eq_true, decide_eq_true_eq, List.all_eq_true, List.mem_range, Bool.or_eq_true, beq_iff_eq, bne_iff_ne, ne_eq, Bool.not_eq_true', List.contains_eq_mem, decide_eq_false_iff_not] at hc'
  have other : ∀ k, p.slots.contains k = false → ∀ i, i < ops.size → p.slot i ≠ k := by
    intro k hk i hi e
    have hm : k ∈ p.slots := by
      rw [← e]
      unfold Plan.slot
      have hi' : i < p.slots.length := by omega
      rw [List.getD_eq_getElem?_getD, List.getElem?_eq_getElem hi']
      exact List.getElem_mem hi'
    rw [List.contains_eq_mem] at hk
    simp [hm] at hk
  have toGetD : ∀ {a : Act}, (∀ k, (∀ i, i < ops.size → p.slot i ≠ k) → a.tmps[k]? = a0.tmps[k]?) → ∀ k, p.slots.contains k = false → a.tmps.getD k undef = a0.tmps.getD k undef := by
    intro a h k hk
    simp only [Array.getD_eq_getD_getElem?, h k (other k hk)]
  refine wp_region_any hm (wpAny_facts (fact := fact) (p := p) (S := S) (a0 := a0) ?_ ?_ he ?_ ?_ ?_ ?_ ops.size _ a0 _ ?_ ⟨by simp, h0, rfl, rfl, fun _ _ => rfl, ?_, ?_, ?_⟩)
  · intro i o ho
    have hi : i < ops.size := (Array.getElem?_eq_some_iff.1 ho).1
    have := (hc' i hi).1.1.1.1
    rw [ho] at this
    simp only [Bool.and_eq_true, Bool.or_eq_true, beq_iff_eq, Option.isNone_iff_eq_none] at this
    exact this
  · intro i j o ho hj hne e
    have hi : i < ops.size := (Array.getElem?_eq_some_iff.1 ho).1
    rcases (hc' i hi).1.1.2 j hj with (h | h) | h
    · exact absurd h hne
    · exfalso; apply h; unfold dstOf; rw [ho]; exact e
    · exact h
  · intro i j hi hj
    obtain ⟨⟨h1, h2⟩, h3⟩ := (hc' i hi).1.2 j hj
    refine ⟨h1, h2, fun i' hi' hk => ?_⟩
    rcases h3 i' hi' with h | h
    · exact absurd hk h
    · exact h
  · intro i j hi hj
    exact (hc' i hi).2 j hj
  · intro i o a w ho hS hold hn hap hsz
    have := stepsFrom_at hstep (i := i) (o := o) (by simpa using ho) a w hS (toGetD hold) (by rw [Nat.zero_add]; exact holdsAll_of hn) (by rw [Nat.zero_add]; exact hap) hsz
    rwa [Nat.zero_add] at this
  · intro a w hS hsz hdf hold hf
    exact hend a w hS hsz hdf (toGetD hold) hf
  · unfold left
    simp
  · intro j i hj hl
    rw [none_listed] at hl; cases hl
  · rintro j ⟨hj, hl, _⟩
    rw [none_listed] at hl; cases hl
  · rintro j k b _ ⟨hj, hl, _⟩
    rw [none_listed] at hl; cases hl
end

/-! ### Facts. -/
/-- A row of integers that the call owns. -/
def Fact.own {B : Nat} (t : TypeId) (n : Nat) (xs : List Value) : Fact B where
  holds v w := w.ownsRow B t 1 v n xs
  foot v _ b := v.ownBlock = some b
  stay := fun {v w w' row} h hg hr => ⟨World.ownsRow.kept h hg (by
    cases e : v.ownBlock with
    | none => exact .inl rfl
    | some b => exact .inr fun e' => hr b e e'.symm), fun b hb => hb⟩
  lt := fun h hb => World.ownsRow.lt h _ hb
/-- A value that is known. -/
def Fact.val {B : Nat} (u : Value) : Fact B where
  holds v _ := v = u
  foot _ _ _ := False
  stay := fun h _ _ => ⟨h, fun _ hb => hb⟩
  lt := fun _ hb => hb.elim
def Fact.any {B : Nat} : Fact B where
  holds _ _ := True
  foot _ _ _ := False
  stay := fun h _ _ => ⟨h, fun _ hb => hb⟩
  lt := fun _ hb => hb.elim
/-- A new variable, of cells that are known. -/
def Fact.box {B : Nat} (t : TypeId) (cs : Array Value) : Fact B where
  holds v w := ∃ b, v = .pointer (some ⟨b, 0, none⟩) ∧ B ≤ b ∧ w.heap[b]? = some (.cells cs t (0, 0))
  foot v _ b := v = .pointer (some ⟨b, 0, none⟩)
  stay := fun {v w w' row} h hg hr => by
    obtain ⟨b, rfl, hb, hc⟩ := h
    refine ⟨⟨b, rfl, hb, (hg.block b (Array.getElem?_eq_some_iff.1 hc).1 fun e => hr b rfl e.symm).trans hc⟩, fun b hb => hb⟩
  lt := fun {v w b} h hb => by
    obtain ⟨b', rfl, hb', hc⟩ := h
    cases hb
    exact ⟨hb', (Array.getElem?_eq_some_iff.1 hc).1⟩
/-- A pair of a row that the call owns and a value. -/
def Fact.pair {B : Nat} (t : TypeId) (n : Nat) (xs : List Value) (u : Value) : Fact B where
  holds v w := ∃ r, v = .agg #[r, u] ∧ w.ownsRow B t 1 r n xs
  foot v _ b := ∃ r, v = .agg #[r, u] ∧ r.ownBlock = some b
  stay := fun {v w w' row} h hg hr => by
    obtain ⟨r, rfl, ho⟩ := h
    exact ⟨⟨r, rfl, World.ownsRow.kept ho hg (by
      cases e : r.ownBlock with
      | none => exact .inl rfl
      | some b => exact .inr fun e' => hr b ⟨r, rfl, e⟩ e'.symm)⟩, fun b hb => hb⟩
  lt := fun {v w b} h hb => by
    obtain ⟨r, rfl, ho⟩ := h
    obtain ⟨r', e, hb⟩ := hb
    cases e
    exact World.ownsRow.lt ho b hb
/-- A new variable that holds such a pair. -/
def Fact.pairBox {B : Nat} (T t : TypeId) (n : Nat) (xs : List Value) (u : Value) : Fact B where
  holds v w := ∃ b r, v = .pointer (some ⟨b, 0, none⟩) ∧ B ≤ b ∧ w.heap[b]? = some (.cells #[r, u] T (0, 0)) ∧ w.ownsRow B t 1 r n xs ∧ r.ownBlock ≠ some b
  foot v w k := ∃ b r, v = .pointer (some ⟨b, 0, none⟩) ∧ w.heap[b]? = some (.cells #[r, u] T (0, 0)) ∧ (k = b ∨ r.ownBlock = some k)
  stay := fun {v w w' row} h hg hr => by
    obtain ⟨b, r, rfl, hb, hc, ho, hne⟩ := h
    have hc' := (hg.block b (Array.getElem?_eq_some_iff.1 hc).1 fun e => hr b ⟨b, r, rfl, hc, .inl rfl⟩ e.symm).trans hc
    refine ⟨⟨b, r, rfl, hb, hc', World.ownsRow.kept ho hg (by
      cases e : r.ownBlock with
      | none => exact .inl rfl
      | some k => exact .inr fun e' => hr k ⟨b, r, rfl, hc, .inr e⟩ e'.symm), hne⟩, ?_⟩
    rintro k ⟨b', r', e, hc2, hk⟩
    cases e
    rw [hc'] at hc2
    simp only [Option.some.injEq, Obj.cells.injEq, Array.mk.injEq, List.cons.injEq, and_true] at hc2
    obtain rfl := hc2
    exact ⟨b, r, rfl, hc, hk⟩
  lt := fun {v w k} h hb => by
    obtain ⟨b, r, rfl, hb', hc, ho, _⟩ := h
    obtain ⟨b2, r2, e, hc2, hk⟩ := hb
    cases e
    rw [hc] at hc2
    simp only [Option.some.injEq, Obj.cells.injEq, Array.mk.injEq, List.cons.injEq, and_true] at hc2
    obtain rfl := hc2
    rcases hk with rfl | hk
    · exact ⟨hb', (Array.getElem?_eq_some_iff.1 hc).1⟩
    · exact World.ownsRow.lt ho k hk

theorem own_slice {w : World} {B n m : Nat} {t : TypeId} {v : Value} {xs : List Value} (h : w.ownsRow B t m v n xs) : ∃ A c, v = .slice A n c := by
  rcases h.2 with ⟨rfl, rfl⟩ | ⟨g, cap, cur, rfl, _⟩
  · exact ⟨none, 0, rfl⟩
  · exact ⟨_, _, rfl⟩
theorem grown_same (w : World) : w.grownBy w none := ⟨rfl, rfl, rfl, Nat.le_refl _, fun _ _ _ => rfl⟩
theorem put_slot {a : Act} {o : Oper} {v : Value} {k : Nat} (ho : o.dst = some k) (hk : k < a.tmps.size) : (a.put o.dst v).tmps.getD k undef = v := by
  rw [ho]
  show (a.tmps.setIfInBounds k v).getD k undef = v
  simp only [Array.getD_eq_getD_getElem?]
  simp [hk]

section
variable {P : Program} {Q : Exit → Act → World → Prop} {B : Nat} {S : World → Prop} {p : Plan} {i : Nat} {o : Oper} {a : Act} {w : World} {fact : Nat → Fact B} {t : TypeId}

/-- An operation that only reads. -/
theorem step_val {u : Value} (hf : fact i = .val u) (hd : o.dst = some (p.slot i)) (hs : p.slot i < a.tmps.size) (hx : (execOp a.eval o).run P w = .ok (.value u) w) (hS : S w) :
    o.wp P a w (Step fact p S i o a w) Q := by
  unfold Oper.wp
  rw [hx, Oper.upon_value]
  refine ⟨u, none, rfl, hS, ?_, grown_same w, fun b h => (by cases h), fun b h => ?_⟩
  · rw [hf, put_slot hd hs]; rfl
  · rw [hf] at h; exact h.elim

/-- A row that is written out. -/
theorem step_lit {cs : Array Value} {n : Nat} (hf : fact i = .own t n cs.toList) (hd : o.dst = some (p.slot i)) (hs : p.slot i < a.tmps.size) (hn : cs.size = n) (hm : n ≤ maxLen) (hB : B ≤ w.heap.size) (hx : (execOp a.eval o).run P w = .ok (.value (.slice (some ⟨w.heap.size, 0, none⟩) n n)) (w.alloc (.cells cs t))) (hS : S (w.alloc (.cells cs t))) :
    o.wp P a w (Step fact p S i o a w) Q := by
  unfold Oper.wp
  rw [hx, Oper.upon_value]
  refine ⟨_, none, rfl, hS, ?_, World.grownBy_alloc w _ none, fun b h => (by cases h), fun b h => ?_⟩
  · rw [hf, put_slot hd hs]; exact World.ownsRow_lit w cs n hB hm (by omega)
  · rw [hf, put_slot hd hs] at h
    have h : (Value.slice (some ⟨w.heap.size, 0, none⟩) n n).ownBlock = some b := h
    simp [Value.ownBlock] at h
    exact .inl (Nat.le_of_eq h)

/-- An append onto a row that the call owns. -/
theorem step_more {j m : Nat} {n : Nat} {xs ys : List Value} (hf : fact i = .own t (n + m) (xs ++ ys)) (hd : o.dst = some (p.slot i)) (hs : p.slot i < a.tmps.size) (hk : p.kills i = [j]) (hj : fact j = .own t n xs)
    (hx : ∃ v' w', (execOp a.eval o).run P w = .ok (.value v') w' ∧ w'.ownsRow B t 1 v' (n + m) (xs ++ ys) ∧ w.grownBy w' (a.tmps.getD (p.slot j) undef).ownBlock ∧ (v'.ownBlock = (a.tmps.getD (p.slot j) undef).ownBlock ∨ v'.ownBlock = some w.heap.size ∨ v'.ownBlock = none))
    (hS : ∀ w', w.grownBy w' (a.tmps.getD (p.slot j) undef).ownBlock → S w') :
    o.wp P a w (Step fact p S i o a w) Q := by
  obtain ⟨v', w', hx, hown, hg, hl⟩ := hx
  unfold Oper.wp
  rw [hx, Oper.upon_value]
  refine ⟨v', _, rfl, hS w' hg, ?_, hg, fun b h => ⟨j, by rw [hk]; exact List.mem_cons_self, ?_⟩, fun b h => ?_⟩
  · rw [hf, put_slot hd hs]; exact hown
  · rw [hj]; exact h
  · rw [hf, put_slot hd hs] at h
    have h : v'.ownBlock = some b := h
    rcases hl with hl | hl | hl
    · refine .inr ⟨j, by rw [hk]; exact List.mem_cons_self, ?_⟩
      rw [hj]; exact (show (a.tmps.getD (p.slot j) undef).ownBlock = some b from hl ▸ h)
    · rw [hl] at h; cases h; exact .inl (Nat.le_refl _)
    · rw [hl] at h; cases h

/-- A row is passed on. -/
theorem step_pass {j n : Nat} {v : Value} {xs : List Value} (hf : fact i = .own t n xs) (hd : o.dst = some (p.slot i)) (hs : p.slot i < a.tmps.size) (hk : p.kills i = [j]) (hj : fact j = .own t n xs) (hr : a.tmps.getD (p.slot j) undef = v)
    (ho : w.ownsRow B t 1 v n xs) (hx : (execOp a.eval o).run P w = .ok (.value v) w) (hS : S w) :
    o.wp P a w (Step fact p S i o a w) Q := by
  unfold Oper.wp
  rw [hx, Oper.upon_value]
  refine ⟨_, none, rfl, hS, ?_, grown_same w, fun b h => (by cases h), fun b h => .inr ⟨j, by rw [hk]; exact List.mem_cons_self, ?_⟩⟩
  · rw [hf, put_slot hd hs]; exact ho
  · rw [hf, put_slot hd hs] at h
    rw [hj, hr]; exact h

/-- A call of a function that gives a value and turns nothing. -/
theorem step_call {u : Value} {f : FuncId} {args : Array Value} (hf : fact i = .val u) (hd : o.dst = some (p.slot i)) (hs : p.slot i < a.tmps.size) (hx : (execOp a.eval o).run P w = .ok (.enter f args) w) (hc : Calls P f args w fun e w' => e = .returned u ∧ S w' ∧ w.grownBy w' none) :
    o.wp P a w (Step fact p S i o a w) Q := by
  unfold Oper.wp
  rw [hx, Oper.upon_enter]
  refine Calls.mono hc ?_
  rintro e w' ⟨rfl, hS, hg⟩
  refine ⟨u, none, rfl, hS, ?_, hg, fun b h => (by cases h), fun b h => ?_⟩
  · rw [hf, put_slot hd hs]; rfl
  · rw [hf] at h; exact h.elim

/-- A new variable. -/
theorem step_box {T : TypeId} {cs : Array Value} (hf : fact i = .box T cs) (hd : o.dst = some (p.slot i)) (hs : p.slot i < a.tmps.size) (hB : B ≤ w.heap.size) (hx : (execOp a.eval o).run P w = .ok (.value (.pointer (some ⟨w.heap.size, 0, none⟩))) (w.alloc (.cells cs T))) (hS : S (w.alloc (.cells cs T))) :
    o.wp P a w (Step fact p S i o a w) Q := by
  unfold Oper.wp
  rw [hx, Oper.upon_value]
  refine ⟨_, none, rfl, hS, ?_, World.grownBy_alloc w _ none, fun b h => (by cases h), fun b h => ?_⟩
  · rw [hf, put_slot hd hs]; exact ⟨_, rfl, hB, heap_alloc_new w _⟩
  · rw [hf, put_slot hd hs] at h
    have h : Value.pointer (some ⟨w.heap.size, 0, none⟩) = .pointer (some ⟨b, 0, none⟩) := h
    cases h
    exact .inl (Nat.le_refl _)

/-- A pair is built. -/
theorem step_pair {j n : Nat} {r u : Value} {xs : List Value} (hf : fact i = .pair t n xs u) (hd : o.dst = some (p.slot i)) (hs : p.slot i < a.tmps.size) (hk : p.kills i = [j]) (hj : fact j = .own t n xs) (hr : a.tmps.getD (p.slot j) undef = r)
    (ho : w.ownsRow B t 1 r n xs) (hx : (execOp a.eval o).run P w = .ok (.value (.agg #[r, u])) w) (hS : S w) :
    o.wp P a w (Step fact p S i o a w) Q := by
  unfold Oper.wp
  rw [hx, Oper.upon_value]
  refine ⟨_, none, rfl, hS, ?_, grown_same w, fun b h => (by cases h), fun b h => .inr ⟨j, by rw [hk]; exact List.mem_cons_self, ?_⟩⟩
  · rw [hf, put_slot hd hs]; exact ⟨r, rfl, ho⟩
  · rw [hf, put_slot hd hs] at h
    obtain ⟨r', e, hb⟩ := h
    simp only [Value.agg.injEq, Array.mk.injEq, List.cons.injEq, and_true] at e
    subst e
    rw [hj, hr]; exact hb

/-- The pair is laid into the new variable. -/
theorem step_lay {j k n : Nat} {T : TypeId} {u : Value} {xs : List Value} {cs : Array Value} (hf : fact i = .pairBox T t n xs u) (hd : o.dst = none) (hk : p.kills i = [j, k]) (hne : j ≠ k) (hj : fact j = .pair t n xs u) (hkk : fact k = .box T cs) (hsl : p.slot i = p.slot k)
    (hn : p.needs i = [j, k]) (h : holdsAll fact p a w [j, k]) (hap : Apart fact p a w i)
    (hx : ∀ b r, a.tmps.getD (p.slot k) undef = .pointer (some ⟨b, 0, none⟩) → a.tmps.getD (p.slot j) undef = .agg #[r, u] → w.heap[b]? = some (.cells cs T (0, 0)) → B ≤ b → w.ownsRow B t 1 r n xs → ∃ w', (execOp a.eval o).run P w = .ok .skip w' ∧ w.grownBy w' (some b) ∧ w'.heap[b]? = some (.cells #[r, u] T (0, 0)) ∧ S w') :
    o.wp P a w (Step fact p S i o a w) Q := by
  obtain ⟨h1, h2, _⟩ := h
  rw [hj] at h1
  rw [hkk] at h2
  obtain ⟨r, hr, ho⟩ := h1
  obtain ⟨b, hb, hB, hc⟩ := h2
  obtain ⟨w', hx, hg, hc', hS⟩ := hx b r hb hr hc hB ho
  have hne2 : r.ownBlock ≠ some b := fun e => hap j k b (by rw [hn]; simp) (by rw [hn]; simp) hne (by rw [hj]; exact ⟨r, hr, e⟩) (by rw [hkk]; exact hb)
  unfold Oper.wp
  rw [hx, Oper.upon_skip]
  refine ⟨undef, some b, rfl, hS, ?_, hg, ?_, ?_⟩
  · rw [hf, hd, hsl]
    show ∃ b r, a.tmps.getD (p.slot k) undef = _ ∧ _
    exact ⟨b, r, hb, hB, hc', World.ownsRow.kept ho hg (.inr hne2), hne2⟩
  · rintro b' e
    cases e
    exact ⟨k, by rw [hk]; simp, by rw [hkk]; exact hb⟩
  · intro b' h
    rw [hf, hd, hsl] at h
    obtain ⟨b2, r2, e2, hc2, h2⟩ := h
    have e2 : a.tmps.getD (p.slot k) undef = _ := e2
    rw [hb] at e2
    cases e2
    rw [hc'] at hc2
    simp only [Option.some.injEq, Obj.cells.injEq, Array.mk.injEq, List.cons.injEq, and_true] at hc2
    obtain rfl := hc2
    rcases h2 with rfl | h2
    · exact .inr ⟨k, by rw [hk]; simp, by rw [hkk]; exact hb⟩
    · exact .inr ⟨j, by rw [hk]; simp, by rw [hj]; exact ⟨r, hr, h2⟩⟩

theorem slot_lt {a : Act} {m k : Nat} (h : Hid (a.tmps.size = m)) (hk : decide (k < m) = true) : k < a.tmps.size := by
  rw [h.out]; exact of_decide_eq_true hk

theorem getd {a : Act} {k : Nat} {v : Value} (h : a.tmps.getD k undef = v) : a.tmps[k]?.getD undef = v := by simpa using h

/-- The frame, written out: what the region has not turned as it was, the rest as it stands. -/
theorem act_lit {a a0 : Act} {n : Nat} (p : Plan) (h : a.tmps.size = n) (hd : a.defers = a0.defers) (hk : ∀ k, p.slots.contains k = false → a.tmps.getD k undef = a0.tmps.getD k undef) :
    a = ⟨((List.range n).map fun k => bif p.slots.contains k then a.tmps.getD k undef else a0.tmps.getD k undef).toArray, a0.defers⟩ := by
  obtain ⟨t, df⟩ := a
  simp only at h hd hk ⊢
  rw [hd]
  congr 1
  apply Array.ext
  · simp [h]
  · intro k h1 h2
    simp only [List.getElem_toArray, List.getElem_map, List.getElem_range]
    cases e : p.slots.contains k
    · simp only [cond_false]
      rw [← hk k e]
      simp [Array.getD, h1]
    · simp [Array.getD, h1]

/-- The append as an operation. -/
theorem exec_append {v s x : Value} {w' : World} {t1 t2 : TypeId} {p q : Operand} (ho : o.op = .call { callee := .builtin .append, args := #[p, q], argTypes := #[t1, t2] }) (hs : a.eval p = s) (hx : a.eval q = x) (hr : (Builtin.append_ #[t1, t2] o.type #[s, x]).run P w = .ok v w') :
    (execOp a.eval o).run P w = .ok (.value v) w' := by
  unfold execOp
  simp only [ho, resolve, invoke, builtin, Sem.run_bind, Sem.run_pure, Result.andThen_ok, List.map_toArray, List.map_cons, List.map_nil, hs, hx, hr]
end
end Go.Proofs.Ytbjkijifpikhkaa
