/-
  A region that draws its order, walked by facts: each operation is shown once, out of the facts of the operations that it looks at; what is found of an operation's value stays, unless an operation writes into the memory that it speaks of (then that operation must say so, by 'kill').
-/
import Derived.Orders
import Derived.Laws.AppendOwn
import Derived.Below
namespace Go.Proofs.Ytdcapokamdmneab
open Go.RowKit
set_option linter.unusedVariables false

section
variable {P : Program} {ops : Array Oper} {Q : Exit → Act → World → Prop}

/-- Operation i comes after operation j in every order. -/
def tied (ops : Array Oper) (i j : Nat) : Bool := match ops[i]? with | some o => o.after.any (fun e => e.on == j && Region.binds .any e) | none => false

/-- Every edge leads to an earlier operation of the text. -/
def early (ops : Array Oper) : Bool := (List.range ops.size).all fun i => match ops[i]? with | some o => o.after.all (fun e => decide (e.on < i)) | none => true

theorem ready_of {listed : Array Bool} {i : Nat} (h : i ∈ Region.ready .any ops listed) :
    i < ops.size ∧ listed.getD i true = false ∧ ∀ j, tied ops i j = true → listed.getD j false = true := by
  unfold Region.ready at h
  simp only [List.mem_filter, List.mem_range, Bool.and_eq_true, Bool.not_eq_true'] at h
  refine ⟨h.1, h.2.1, fun j hj => ?_⟩
  have h2 := h.2.2
  unfold tied at hj
  cases ho : ops[i]? with
  | none => rw [ho] at hj; cases hj
  | some o =>
    rw [ho] at hj h2
    simp only [Option.map_some, Option.getD_some] at h2
    simp only at hj
    rw [Array.any_eq_true] at hj
    rw [Array.all_eq_true] at h2
    obtain ⟨k, hk, hb⟩ := hj
    have := h2 k hk
    simp only [Bool.and_eq_true, beq_iff_eq] at hb
    rw [hb.2, hb.1] at this
    simpa using this

theorem ready_all (he : early ops = true) {listed : Array Bool} (hs : listed.size = ops.size) (hr : Region.ready .any ops listed = []) : ∀ i, i < ops.size → listed.getD i false = true := by
  intro i
  induction i using Nat.strongRecOn with
  | _ i ih =>
    intro hi
    have hnot : i ∉ Region.ready .any ops listed := by rw [hr]; simp
    unfold Region.ready at hnot
    simp only [List.mem_filter, List.mem_range, Bool.and_eq_true, Bool.not_eq_true'] at hnot
    have hl : i < listed.size := by omega
    cases hb : listed.getD i false with
    | true => rfl
    | false =>
      exfalso
      apply hnot
      have hb2 : listed.getD i true = false := by
        simp only [Array.getD_eq_getD_getElem?, Array.getElem?_eq_getElem hl, Option.getD_some] at hb ⊢; exact hb
      refine ⟨hi, hb2, ?_⟩
      rw [Array.getElem?_eq_getElem hi]
      simp only [Option.map_some, Option.getD_some]
      rw [Array.all_eq_true]
      intro k hk
      have hea : (ops[i]).after[k].on < i := by
        unfold early at he
        rw [List.all_eq_true] at he
        have h1 := he i (List.mem_range.2 hi)
        rw [Array.getElem?_eq_getElem hi] at h1
        simp only at h1
        rw [Array.all_eq_true] at h1
        simpa using h1 k hk
      have := ih _ hea (by omega)
      rw [this]; simp

theorem none_listed (n j : Nat) : (Array.replicate n false).getD j false = false := by
  simp only [Array.getD_eq_getD_getElem?, Array.getElem?_replicate]
  split <;> rfl

/-- How many are not listed yet. -/
def left (listed : Array Bool) : Nat := (listed.toList.filter (fun b => !b)).length

/-- What one operation leaves: a value in its slot, its fact, and a world that has grown but for a row that the operation took over. -/
def Step (F : Nat → Value → World → Prop) (foot : Nat → Value → Option Nat) (kill : Nat → Option Nat) (S : World → Prop) (d : Nat → Nat) (i : Nat) (o : Oper) (a : Act) (w : World) : Act → World → Prop := fun a' w' =>
  ∃ v row, a' = a.put o.dst v ∧ S w' ∧ F i v w' ∧ w.grownBy w' row ∧
    (∀ b, row = some b → ∃ j, kill i = some j ∧ foot j (a.tmps.getD (d j) undef) = some b) ∧
    (∀ b, foot i v = some b → w.heap.size ≤ b ∨ ∃ j, kill i = some j ∧ foot j (a.tmps.getD (d j) undef) = some b)

structure RegInv (ops : Array Oper) (F : Nat → Value → World → Prop) (foot : Nat → Value → Option Nat) (kill : Nat → Option Nat) (S : World → Prop) (d : Nat → Nat) (a0 : Act) (listed : Array Bool) (a : Act) (w : World) : Prop where
  size : listed.size = ops.size
  base : S w
  len : a.tmps.size = a0.tmps.size
  defs : a.defers = a0.defers
  old : ∀ k, (∀ i, i < ops.size → d i ≠ k) → a.tmps[k]? = a0.tmps[k]?
  facts : ∀ j, j < ops.size → listed.getD j false = true → (∀ i, i < ops.size → kill i = some j → listed.getD i false = false) → F j (a.tmps.getD (d j) undef) w
  apart : ∀ j k b, j < ops.size → k < ops.size → j ≠ k → listed.getD j false = true → listed.getD k false = true →
    (∀ i, i < ops.size → kill i = some j → listed.getD i false = false) → (∀ i, i < ops.size → kill i = some k → listed.getD i false = false) →
    foot j (a.tmps.getD (d j) undef) = some b → foot k (a.tmps.getD (d k) undef) = some b → False

variable {F : Nat → Value → World → Prop} {foot : Nat → Value → Option Nat} {kill : Nat → Option Nat} {need : Nat → List Nat} {S : World → Prop} {d : Nat → Nat} {a0 : Act}

theorem listed_set {listed : Array Bool} {i : Nat} (hi : i < listed.size) (k : Nat) : (listed.setIfInBounds i true).getD k false = if i = k then true else listed.getD k false := by
  simp only [Array.getD_eq_getD_getElem?]
  by_cases h : i = k
  · subst h; simp [hi]
  · simp [h]

theorem tmps_set {t : Array Value} {i : Nat} (v : Value) (hi : i < t.size) (k : Nat) : (t.setIfInBounds i v).getD k undef = if i = k then v else t.getD k undef := by
  simp only [Array.getD_eq_getD_getElem?]
  by_cases h : i = k
  · subst h; simp [hi]
  · simp [h]

theorem RegInv.step {listed : Array Bool} {a : Act} {w : World} {i : Nat} {o : Oper} (h : RegInv ops F foot kill S d a0 listed a w) (hi : i < ops.size) (ho : o.dst = some (d i)) (hu : listed.getD i false = false)
    (hinj : ∀ i j, i < ops.size → j < ops.size → d i = d j → i = j) (hdl : ∀ i, i < ops.size → d i < a0.tmps.size)
    (hk : ∀ j, kill i = some j → j < ops.size ∧ listed.getD j false = true ∧ ∀ i', i' < ops.size → kill i' = some j → i' = i)
    (hF : ∀ j v w w' row, F j v w → w.grownBy w' row → (∀ b, foot j v = some b → row ≠ some b) → F j v w')
    (hlt : ∀ j v w b, F j v w → foot j v = some b → b < w.heap.size)
    {a' : Act} {w' : World} (hst : Step F foot kill S d i o a w a' w') : RegInv ops F foot kill S d a0 (listed.setIfInBounds i true) a' w' := by
  obtain ⟨v, row, rfl, hS, hFi, hg, hrow, hfoot⟩ := hst
  have hil : i < listed.size := by rw [h.size]; exact hi
  have hdi : d i < a.tmps.size := by rw [h.len]; exact hdl i hi
  have hput : ∀ k, k < ops.size → (a.put o.dst v).tmps.getD (d k) undef = if i = k then v else a.tmps.getD (d k) undef := by
    intro k hkk
    rw [ho]
    show (a.tmps.setIfInBounds (d i) v).getD (d k) undef = _
    rw [tmps_set v hdi]
    by_cases e : i = k
    · subst e; simp
    · have : d i ≠ d k := fun e' => e (hinj i k hi hkk e')
      rw [if_neg this, if_neg e]
  -- a killer's victim is live
  have live : ∀ j, kill i = some j → j ≠ i ∧ ∀ i', i' < ops.size → kill i' = some j → listed.getD i' false = false := by
    intro j hj
    obtain ⟨h1, h2, h3⟩ := hk j hj
    refine ⟨fun e => (by rw [e, hu] at h2; cases h2), fun i' hi' hk' => (by rw [h3 i' hi' hk']; exact hu)⟩
  -- what is live afterwards and is not i was live, and i did not take it over
  have back : ∀ j, j ≠ i → (listed.setIfInBounds i true).getD j false = true → (∀ i', i' < ops.size → kill i' = some j → (listed.setIfInBounds i true).getD i' false = false) →
      listed.getD j false = true ∧ (∀ i', i' < ops.size → kill i' = some j → listed.getD i' false = false) ∧ kill i ≠ some j := by
    intro j hj h1 h2
    rw [listed_set hil, if_neg (fun e => hj e.symm)] at h1
    refine ⟨h1, fun i' hi' hk' => ?_, fun e => ?_⟩
    · have := h2 i' hi' hk'
      rw [listed_set hil] at this
      split at this
      · cases this
      · exact this
    · have := h2 i hi e
      rw [listed_set hil, if_pos rfl] at this
      cases this
  refine ⟨by simp [h.size], hS, ?_, ?_, ?_, ?_, ?_⟩
  · rw [ho]; show (a.tmps.setIfInBounds (d i) v).size = _; rw [Array.size_setIfInBounds]; exact h.len
  · rw [ho]; exact h.defs
  · intro k hkk
    rw [ho]
    show (a.tmps.setIfInBounds (d i) v)[k]? = _
    rw [Array.getElem?_setIfInBounds_ne (hkk i hi)]
    exact h.old k hkk
  · intro j hj h1 h2
    rw [hput j hj]
    by_cases e : i = j
    · subst e; rw [if_pos rfl]; exact hFi
    · rw [if_neg e]
      obtain ⟨b1, b2, b3⟩ := back j (fun e' => e e'.symm) h1 h2
      refine hF j _ w w' row (h.facts j hj b1 b2) hg fun b hb hr => ?_
      obtain ⟨j', hj', hf⟩ := hrow b hr
      obtain ⟨k1, k2, k3⟩ := hk j' hj'
      exact h.apart j j' b hj k1 (fun e' => b3 (e' ▸ hj')) b1 k2 b2 (live j' hj').2 hb hf
  · -- i against another
    have one : ∀ k b, k < ops.size → k ≠ i → (listed.setIfInBounds i true).getD k false = true → (∀ i', i' < ops.size → kill i' = some k → (listed.setIfInBounds i true).getD i' false = false) → foot i v = some b → foot k (a.tmps.getD (d k) undef) = some b → False := by
      intro k b hkk hne h1 h2 hb hbk
      obtain ⟨b1, b2, b3⟩ := back k hne h1 h2
      rcases hfoot b hb with hge | ⟨j', hj', hf⟩
      · have := hlt k _ w b (h.facts k hkk b1 b2) hbk
        omega
      · obtain ⟨k1, k2, k3⟩ := hk j' hj'
        exact h.apart k j' b hkk k1 (fun e' => b3 (e' ▸ hj')) b1 k2 b2 (live j' hj').2 hbk hf
    intro j k b hj hkk hne hj1 hk1 hj2 hk2 hfj hfk
    rw [hput j hj] at hfj
    rw [hput k hkk] at hfk
    by_cases ej : i = j
    · subst ej
      rw [if_pos rfl] at hfj
      rw [if_neg hne] at hfk
      exact one k b hkk (fun e => hne e.symm) hk1 hk2 hfj hfk
    · rw [if_neg ej] at hfj
      by_cases ek : i = k
      · subst ek
        rw [if_pos rfl] at hfk
        exact one j b hj hne hj1 hj2 hfk hfj
      · rw [if_neg ek] at hfk
        obtain ⟨b1, b2, _⟩ := back j (fun e => ej e.symm) hj1 hj2
        obtain ⟨c1, c2, _⟩ := back k (fun e => ek e.symm) hk1 hk2
        exact h.apart j k b hj hkk hne b1 c1 b2 c2 hfj hfk

theorem left_set {listed : Array Bool} {i : Nat} (hi : i < listed.size) (hu : listed.getD i false = false) : left (listed.setIfInBounds i true) + 1 = left listed := by
  unfold left
  obtain ⟨l⟩ := listed
  simp only [List.size_toArray] at hi
  simp only [Array.getD_eq_getD_getElem?, List.getElem?_toArray] at hu
  simp only [List.setIfInBounds_toArray]
  induction l generalizing i with
  | nil => simp at hi
  | cons b l ih =>
    cases i with
    | zero => simp at hu; subst hu; simp
    | succ i =>
      simp only [List.getElem?_cons_succ] at hu
      have := ih (by simpa using hi) hu
      simp only [List.set_cons_succ, List.filter_cons]
      split <;> simp_all <;> omega

theorem left_zero {listed : Array Bool} (h : left listed = 0) : ∀ i, listed.getD i true = true := by
  intro i
  unfold left at h
  have h' := List.eq_nil_of_length_eq_zero h
  rw [List.filter_eq_nil_iff] at h'
  simp only [Array.getD_eq_getD_getElem?]
  cases e : listed[i]? with
  | none => rfl
  | some b =>
    have hm : b ∈ listed.toList := by
      rw [← Array.getElem?_toList] at e
      exact List.mem_of_getElem? e
    have := h' b hm
    cases b
    · simp at this
    · rfl

theorem wpAny_facts (hd : ∀ i o, ops[i]? = some o → o.dst = some (d i) ∧ o.guard = none) (hinj : ∀ i j, i < ops.size → j < ops.size → d i = d j → i = j) (hdl : ∀ i, i < ops.size → d i < a0.tmps.size)
    (he : early ops = true)
    (hneed : ∀ i j, i < ops.size → j ∈ need i → j < ops.size ∧ tied ops i j = true ∧ ∀ i', i' < ops.size → kill i' = some j → i' = i)
    (hkill : ∀ i j, i < ops.size → kill i = some j → j ∈ need i)
    (hF : ∀ j v w w' row, F j v w → w.grownBy w' row → (∀ b, foot j v = some b → row ≠ some b) → F j v w')
    (hlt : ∀ j v w b, F j v w → foot j v = some b → b < w.heap.size)
    (hstep : ∀ i o a w, ops[i]? = some o → S w → a.tmps.size = a0.tmps.size → (∀ k, (∀ i, i < ops.size → d i ≠ k) → a.tmps[k]? = a0.tmps[k]?) → (∀ j, j ∈ need i → F j (a.tmps.getD (d j) undef) w) →
      o.wp P a w (Step F foot kill S d i o a w) Q)
    (hend : ∀ a w, S w → a.tmps.size = a0.tmps.size → a.defers = a0.defers → (∀ k, (∀ i, i < ops.size → d i ≠ k) → a.tmps[k]? = a0.tmps[k]?) → (∀ j, j < ops.size → (∀ i, i < ops.size → kill i ≠ some j) → F j (a.tmps.getD (d j) undef) w) → Q .normal a w) :
    ∀ (fuel : Nat) (listed : Array Bool) (a : Act) (w : World), left listed = fuel → RegInv ops F foot kill S d a0 listed a w → wpAny P .any ops Q fuel listed a w := by
  intro fuel
  have fin : ∀ (listed : Array Bool) (a : Act) (w : World), Region.ready .any ops listed = [] → RegInv ops F foot kill S d a0 listed a w → Q .normal a w := by
    intro listed a w hr h
    have hall := ready_all he h.size hr
    exact hend a w h.base h.len h.defs h.old fun j hj hnk => h.facts j hj (hall j hj) fun i hi e => absurd e (hnk i hi)
  induction fuel with
  | zero =>
    intro listed a w hl h
    have hr : Region.ready .any ops listed = [] := by
      unfold Region.ready
      rw [List.filter_eq_nil_iff]
      intro i _
      rw [left_zero hl i]
      simp
    exact ⟨hr, fin listed a w hr h⟩
  | succ fuel ih =>
    intro listed a w hl h
    refine ⟨fun hr => fin listed a w hr h, fun i hi => ?_⟩
    obtain ⟨h1, h2, h3⟩ := ready_of hi
    have hil : i < listed.size := by rw [h.size]; exact h1
    have hu : listed.getD i false = false := by
      simp only [Array.getD_eq_getD_getElem?, Array.getElem?_eq_getElem hil, Option.getD_some] at h2 ⊢; exact h2
    have ho : ops[i]? = some ops[i] := Array.getElem?_eq_getElem h1
    obtain ⟨hdst, hgd⟩ := hd i _ ho
    unfold wpOp
    rw [ho]
    simp only
    have hw : Region.wanted ops[i] (yielded ops a.tmps) = true := by simp [Region.wanted, hgd]
    rw [if_pos hw]
    refine .inl (Oper.wp_mono (fun a' w' hst => ?_) (hstep i _ a w ho h.base h.len h.old fun j hj => ?_))
    · refine ih _ a' w' ?_ (h.step h1 hdst hu hinj hdl (fun j hj => ?_) hF hlt hst)
      · have := left_set hil hu; omega
      · obtain ⟨n1, n2, n3⟩ := hneed i j h1 (hkill i j h1 hj)
        exact ⟨n1, h3 j n2, n3⟩
    · obtain ⟨n1, n2, n3⟩ := hneed i j h1 hj
      exact h.facts j n1 (h3 j n2) fun i' hi' hk' => by rw [n3 i' hi' hk']; exact hu

/-- THE RULE: a region that draws its order, by the facts of its operations. -/
theorem wp_region_facts {id : Nat} {w : World} (hm : P.follows .mixedOrders = true) (F : Nat → Value → World → Prop) (foot : Nat → Value → Option Nat) (kill : Nat → Option Nat) (need : Nat → List Nat) (S : World → Prop) (d : Nat → Nat)
    (hd : ∀ i o, ops[i]? = some o → o.dst = some (d i) ∧ o.guard = none) (hinj : ∀ i j, i < ops.size → j < ops.size → d i = d j → i = j) (hdl : ∀ i, i < ops.size → d i < a0.tmps.size)
    (he : early ops = true)
    (hneed : ∀ i j, i < ops.size → j ∈ need i → j < ops.size ∧ tied ops i j = true ∧ ∀ i', i' < ops.size → kill i' = some j → i' = i)
    (hkill : ∀ i j, i < ops.size → kill i = some j → j ∈ need i)
    (hF : ∀ j v w w' row, F j v w → w.grownBy w' row → (∀ b, foot j v = some b → row ≠ some b) → F j v w')
    (hlt : ∀ j v w b, F j v w → foot j v = some b → b < w.heap.size)
    (h0 : S w.drew)
    (hstep : ∀ i o a w, ops[i]? = some o → S w → a.tmps.size = a0.tmps.size → (∀ k, (∀ i, i < ops.size → d i ≠ k) → a.tmps[k]? = a0.tmps[k]?) → (∀ j, j ∈ need i → F j (a.tmps.getD (d j) undef) w) →
      o.wp P a w (Step F foot kill S d i o a w) Q)
    (hend : ∀ a w, S w → a.tmps.size = a0.tmps.size → a.defers = a0.defers → (∀ k, (∀ i, i < ops.size → d i ≠ k) → a.tmps[k]? = a0.tmps[k]?) → (∀ j, j < ops.size → (∀ i, i < ops.size → kill i ≠ some j) → F j (a.tmps.getD (d j) undef) w) → Q .normal a w) :
    (Code.region id ops true).wp P Q a0 w :=
  wp_region_any hm (by
    refine wpAny_facts hd hinj hdl he hneed hkill hF hlt hstep hend ops.size _ a0 _ ?_ ⟨by simp, h0, rfl, rfl, fun _ _ => rfl, ?_, ?_⟩
    · unfold left
      simp
    · intro j hj hl
      rw [none_listed] at hl; cases hl
    · intro j k b hj hk _ hl
      rw [none_listed] at hl; cases hl)

end

/-! ### Facts of two kinds: a row of integers that the call owns, and a value that is known. -/
inductive Fact where
  | own (n : Nat) (xs : List Value)
  | val (u : Value)
  | any

def Fact.holds (B : Nat) (t : TypeId) : Fact → Value → World → Prop
  | .own n xs, v, w => w.ownsRow B t 1 v n xs
  | .val u, v, _ => v = u
  | .any, _, _ => True

def Fact.foot : Fact → Value → Option Nat
  | .own _ _, v => v.ownBlock
  | .val _, _ => none
  | .any, _ => none

theorem Fact.stay {B : Nat} {t : TypeId} {f : Fact} {v : Value} {w w' : World} {row : Option Nat} (h : f.holds B t v w) (hg : w.grownBy w' row) (hr : ∀ b, f.foot v = some b → row ≠ some b) : f.holds B t v w' := by
  cases f with
  | own n xs =>
    refine World.ownsRow.kept h hg ?_
    cases e : v.ownBlock with
    | none => exact .inl rfl
    | some b => exact .inr fun e' => hr b e e'.symm
  | val u => exact h
  | any => trivial

theorem Fact.lt {B : Nat} {t : TypeId} {f : Fact} {v : Value} {w : World} {b : Nat} (h : f.holds B t v w) (hb : f.foot v = some b) : B ≤ b ∧ b < w.heap.size := by
  cases f with
  | own n xs => exact World.ownsRow.lt h b hb
  | val u => cases hb
  | any => cases hb

theorem grown_same (w : World) : w.grownBy w none := ⟨rfl, rfl, rfl, Nat.le_refl _, fun _ _ _ => rfl⟩

section
variable {P : Program} {ops : Array Oper} {Q : Exit → Act → World → Prop} {S : World → Prop} {d : Nat → Nat} {kill : Nat → Option Nat} {i : Nat} {o : Oper} {a : Act} {w : World} {fact : Nat → Fact} {B : Nat} {t : TypeId}

/-- An operation that only reads. -/
theorem step_val {u : Value} (hf : fact i = .val u) (hx : (execOp a.eval o).run P w = .ok (.value u) w) (hS : S w) :
    o.wp P a w (Step (fun j => (fact j).holds B t) (fun j => (fact j).foot) kill S d i o a w) Q := by
  unfold Oper.wp
  rw [hx, Oper.upon_value]
  refine ⟨u, none, rfl, hS, ?_, grown_same w, fun b h => (by cases h), fun b h => ?_⟩
  · show (fact i).holds B t u w; rw [hf]; rfl
  · have h : (fact i).foot u = some b := h
    rw [hf] at h; cases h

/-- A row that is written out. -/
theorem step_lit {cs : Array Value} {n : Nat} (hf : fact i = .own n cs.toList) (hn : cs.size = n) (hm : n ≤ maxLen) (hB : B ≤ w.heap.size) (hx : (execOp a.eval o).run P w = .ok (.value (.slice (some ⟨w.heap.size, 0, none⟩) n n)) (w.alloc (.cells cs t))) (hS : S (w.alloc (.cells cs t))) :
    o.wp P a w (Step (fun j => (fact j).holds B t) (fun j => (fact j).foot) kill S d i o a w) Q := by
  unfold Oper.wp
  rw [hx, Oper.upon_value]
  refine ⟨_, none, rfl, hS, ?_, World.grownBy_alloc w _ none, fun b h => (by cases h), fun b h => ?_⟩
  · show (fact i).holds B t _ _; rw [hf]; exact World.ownsRow_lit w cs n hB hm (by omega)
  · have h : (fact i).foot _ = some b := h
    rw [hf] at h
    simp [Fact.foot, Value.ownBlock] at h
    exact .inl (Nat.le_of_eq h)

/-- An append onto a row that the call owns. -/
theorem step_more {j m : Nat} {n : Nat} {xs ys : List Value} (hf : fact i = .own (n + m) (xs ++ ys)) (hk : kill i = some j) (hj : fact j = .own n xs) (hB : B ≤ w.heap.size)
    (hx : ∃ v' w', (execOp a.eval o).run P w = .ok (.value v') w' ∧ w'.ownsRow B t 1 v' (n + m) (xs ++ ys) ∧ w.grownBy w' (a.tmps.getD (d j) undef).ownBlock ∧ (v'.ownBlock = (a.tmps.getD (d j) undef).ownBlock ∨ v'.ownBlock = some w.heap.size ∨ v'.ownBlock = none))
    (hS : ∀ w', w.grownBy w' (a.tmps.getD (d j) undef).ownBlock → S w') :
    o.wp P a w (Step (fun j => (fact j).holds B t) (fun j => (fact j).foot) kill S d i o a w) Q := by
  obtain ⟨v', w', hx, hown, hg, hl⟩ := hx
  unfold Oper.wp
  rw [hx, Oper.upon_value]
  refine ⟨v', _, rfl, hS w' hg, ?_, hg, fun b h => ⟨j, hk, ?_⟩, fun b h => ?_⟩
  · show (fact i).holds B t _ _; rw [hf]; exact hown
  · show (fact j).foot _ = _; rw [hj]; exact h
  · have h : (fact i).foot v' = some b := h
    rw [hf] at h
    simp only [Fact.foot] at h
    rcases hl with hl | hl | hl
    · refine .inr ⟨j, hk, ?_⟩
      show (fact j).foot _ = _
      rw [hj]; exact (show (a.tmps.getD (d j) undef).ownBlock = some b from hl ▸ h)
    · rw [hl] at h; cases h; exact .inl (Nat.le_refl _)
    · rw [hl] at h; cases h

/-- A call of a function that gives a value and turns nothing. -/
theorem step_call {u : Value} {f : FuncId} {args : Array Value} (hf : fact i = .val u) (hx : (execOp a.eval o).run P w = .ok (.enter f args) w) (hc : Calls P f args w fun e w' => e = .returned u ∧ S w' ∧ w.grownBy w' none) :
    o.wp P a w (Step (fun j => (fact j).holds B t) (fun j => (fact j).foot) kill S d i o a w) Q := by
  unfold Oper.wp
  rw [hx, Oper.upon_enter]
  refine Calls.mono hc ?_
  rintro e w' ⟨rfl, hS, hg⟩
  refine ⟨u, none, rfl, hS, ?_, hg, fun b h => (by cases h), fun b h => ?_⟩
  · show (fact i).holds B t u w'; rw [hf]; rfl
  · have h : (fact i).foot u = some b := h
    rw [hf] at h; cases h

theorem getd {a : Act} {k : Nat} {v : Value} (h : a.tmps.getD k undef = v) : a.tmps[k]?.getD undef = v := by simpa using h

/-- The append as an operation. -/
theorem exec_append {v s x : Value} {w' : World} {t1 t2 : TypeId} {p q : Operand} (ho : o.op = .call { callee := .builtin .append, args := #[p, q], argTypes := #[t1, t2] }) (hs : a.eval p = s) (hx : a.eval q = x) (hr : (Builtin.append_ #[t1, t2] o.type #[s, x]).run P w = .ok v w') :
    (execOp a.eval o).run P w = .ok (.value v) w' := by
  unfold execOp
  simp only [ho, resolve, invoke, builtin, Sem.run_bind, Sem.run_pure, Result.andThen_ok, List.map_toArray, List.map_cons, List.map_nil, hs, hx, hr]
end

/-! ### The rule, with what can be reckoned in one check. -/
/-- The plan of a region: each operation's slot, the operation whose row it takes over, and those that it looks at. -/
structure Plan where
  slots : List Nat
  kill : List (Option Nat)
  need : List (List Nat)

def Plan.slot (p : Plan) (i : Nat) : Nat := p.slots.getD i 0
def Plan.kills (p : Plan) (i : Nat) : Option Nat := p.kill.getD i none
def Plan.needs (p : Plan) (i : Nat) : List Nat := p.need.getD i []

def Plan.fits (p : Plan) (ops : Array Oper) (sz : Nat) : Bool :=
  early ops && (List.range ops.size).all fun i =>
    (match ops[i]? with | some o => o.dst == some (p.slot i) && o.guard.isNone | none => false) && decide (p.slot i < sz) &&
    (List.range ops.size).all (fun j => i == j || p.slot i != p.slot j) &&
    (p.needs i).all (fun j => decide (j < ops.size) && tied ops i j && (List.range ops.size).all fun i' => (p.kills i' != some j) || i' == i) &&
    (match p.kills i with | none => true | some j => (p.needs i).contains j)

def holdsAll (f : Nat → Value → World → Prop) (d : Nat → Nat) (a : Act) (w : World) : List Nat → Prop
  | [] => True
  | j :: l => f j (a.tmps.getD (d j) undef) w ∧ holdsAll f d a w l

theorem holdsAll_of {f : Nat → Value → World → Prop} {d : Nat → Nat} {a : Act} {w : World} : ∀ {l : List Nat}, (∀ j, j ∈ l → f j (a.tmps.getD (d j) undef) w) → holdsAll f d a w l
  | [], _ => trivial
  | j :: l, h => ⟨h j List.mem_cons_self, holdsAll_of fun k hk => h k (List.mem_cons_of_mem _ hk)⟩

/-- The operations from number i on, each shown once. -/
def stepsFrom (P : Program) (Q : Exit → Act → World → Prop) (p : Plan) (fact : Nat → Fact) (B : Nat) (t : TypeId) (S : World → Prop) (a0 : Act) : Nat → List Oper → Prop
  | _, [] => True
  | i, o :: l => (∀ a w, S w → (∀ k, p.slots.contains k = false → a.tmps.getD k undef = a0.tmps.getD k undef) → holdsAll (fun j => (fact j).holds B t) p.slot a w (p.needs i) →
      o.wp P a w (Step (fun j => (fact j).holds B t) (fun j => (fact j).foot) p.kills S p.slot i o a w) Q) ∧ stepsFrom P Q p fact B t S a0 (i + 1) l

theorem stepsFrom_at {P : Program} {Q : Exit → Act → World → Prop} {p : Plan} {fact : Nat → Fact} {B : Nat} {t : TypeId} {S : World → Prop} {a0 : Act} : ∀ {l : List Oper} {n : Nat}, stepsFrom P Q p fact B t S a0 n l → ∀ {i : Nat} {o : Oper}, l[i]? = some o →
    ∀ a w, S w → (∀ k, p.slots.contains k = false → a.tmps.getD k undef = a0.tmps.getD k undef) → holdsAll (fun j => (fact j).holds B t) p.slot a w (p.needs (n + i)) →
      o.wp P a w (Step (fun j => (fact j).holds B t) (fun j => (fact j).foot) p.kills S p.slot (n + i) o a w) Q
  | [], _, _, i, o, ho => by simp at ho
  | x :: l, n, h, i, o, ho => by
    cases i with
    | zero => simp at ho; subst ho; exact h.1
    | succ i =>
      simp only [List.getElem?_cons_succ] at ho
      have := stepsFrom_at h.2 ho
      rwa [show n + 1 + i = n + (i + 1) by omega] at this

theorem wp_region_plan {P : Program} {ops : Array Oper} {Q : Exit → Act → World → Prop} {a0 : Act} {id : Nat} {w : World} (hm : P.follows .mixedOrders = true) (p : Plan) (fact : Nat → Fact) (B : Nat) (t : TypeId) (S : World → Prop)
    (hc : p.fits ops a0.tmps.size = true) (hslots : p.slots.length = ops.size) (h0 : S w.drew) (hstep : stepsFrom P Q p fact B t S a0 0 ops.toList)
    (hend : ∀ a w, S w → a.tmps.size = a0.tmps.size → a.defers = a0.defers → (∀ k, p.slots.contains k = false → a.tmps.getD k undef = a0.tmps.getD k undef) → (∀ j, j < ops.size → (∀ i, i < ops.size → p.kills i ≠ some j) → (fact j).holds B t (a.tmps.getD (p.slot j) undef) w) → Q .normal a w) :
    (Code.region id ops true).wp P Q a0 w := by
  unfold Plan.fits at hc
  rw [Bool.and_eq_true, List.all_eq_true] at hc
  obtain ⟨he, hc⟩ := hc
  have hc' : ∀ i, i < ops.size → _ := fun i hi => hc i (List.mem_range.2 hi)
  simp only [Bool.and_eq_true, decide_eq_true_eq, List.all_eq_true, List.mem_range, Bool.or_eq_true, beq_iff_eq, bne_iff_ne, ne_eq] at hc'
  have other : ∀ k, p.slots.contains k = false → ∀ i, i < ops.size → p.slot i ≠ k := by
    intro k hk i hi e
    have hm : k ∈ p.slots := by
      rw [← e]
      unfold Plan.slot
      have hi' : i < p.slots.length := by omega
      rw [List.getD_eq_getElem?_getD, List.getElem?_eq_getElem hi']
      exact List.getElem_mem hi'
    rw [List.contains_eq_mem] at hk
    simp [hm] at hk
  have toGetD : ∀ {a : Act}, (∀ k, (∀ i, i < ops.size → p.slot i ≠ k) → a.tmps[k]? = a0.tmps[k]?) → ∀ k, p.slots.contains k = false → a.tmps.getD k undef = a0.tmps.getD k undef := by
    intro a h k hk
    simp only [Array.getD_eq_getD_getElem?, h k (other k hk)]
  refine wp_region_facts hm (fun j => (fact j).holds B t) (fun j => (fact j).foot) p.kills p.needs S p.slot ?_ ?_ ?_ he ?_ ?_ (fun j v w w' row => Fact.stay) (fun j v w b h hb => (Fact.lt h hb).2) h0 ?_ ?_
  · intro i o ho
    have hi : i < ops.size := (Array.getElem?_eq_some_iff.1 ho).1
    have := (hc' i hi).1.1.1.1
    rw [ho] at this
    simp only [Bool.and_eq_true, beq_iff_eq, Option.isNone_iff_eq_none] at this
    exact this
  · intro i j hi hj e
    rcases (hc' i hi).1.1.2 j hj with h | h
    · exact h
    · exact absurd e h
  · intro i hi
    exact (hc' i hi).1.1.1.2
  · intro i j hi hj
    obtain ⟨⟨h1, h2⟩, h3⟩ := (hc' i hi).1.2 j hj
    refine ⟨h1, h2, fun i' hi' hk => ?_⟩
    rcases h3 i' hi' with h | h
    · exact absurd hk h
    · exact h
  · intro i j hi hj
    have := (hc' i hi).2
    rw [hj] at this
    simpa using this
  · intro i o a w ho hS _ hold hn
    have := stepsFrom_at hstep (i := i) (o := o) (by simpa using ho) a w hS (toGetD hold) (by rw [Nat.zero_add]; exact holdsAll_of hn)
    rwa [Nat.zero_add] at this
  · intro a w hS hsz hdf hold hf
    exact hend a w hS hsz hdf (toGetD hold) hf
end Go.Proofs.Ytdcapokamdmneab
