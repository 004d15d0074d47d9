/-
  Part 4 of the texts that the laws stand on.
-/
import Derived.Test.YtkgnlloioaobiaaGreatJc
set_option linter.unusedVariables false
set_option linter.unusedSimpArgs false
set_option maxRecDepth 100000
set_option linter.unusedSectionVars false
namespace Go.Proofs.YtkgnlloioaobiaaGreat
open Go.RowKit Go.Shelf
attribute [local go_sem] Oper.semAt_some
def GatherRet (n : Nat) (w : World) (e : Ending) (w' : World) (D : Int) (r : Int × List (List CD)) : Prop :=
  ∃ A k c ps, e = .returned (.tuple #[Value.agg #[.int .i64 (if r.1 ≠ 0 then 0 else D), .slice A k c], .int .i64 r.1]) ∧ PiecesAt w' A k ps ∧ (∀ p ∈ ps, PieceOk n w' p) ∧ ps.map PEl.dat = (if r.1 ≠ 0 then [] else r.2) ∧ (0 < k → ∃ g o, A = some ⟨g, o, none⟩ ∧ w.heap.size ≤ g) ∧ Below w.heap.size w w'
def Zed (h : Nat) (W : World) : Prop := W.heap[h]? = some (.cells #[.int .i64 0, .slice none 0 0] 24 (0, 0)) ∧ W.heap[h + 1]? = some (.cells #[.int .i64 0] 27 (0, 0))
def PBox (k b : Nat) (W : World) : Prop := W.heap[k]? = some (.cells #[.pointer (some ⟨b, 0, none⟩)] 84 (0, 0))
theorem Zed.own (h : Nat) {β : Type} : Own (fun (_ : β) W => Zed h W) := fun s A B row hs hg hr => by
  refine ⟨(hg.block h (Array.getElem?_eq_some_iff.1 hs.1).1 fun e => ?_).trans hs.1, (hg.block (h + 1) (Array.getElem?_eq_some_iff.1 hs.2).1 fun e => ?_).trans hs.2⟩
  · obtain ⟨o, ho, hf⟩ := hr h e.symm
    rw [hs.1] at ho
    cases ho
    cases hf
  · obtain ⟨o, ho, hf⟩ := hr (h + 1) e.symm
    rw [hs.2] at ho
    cases ho
    cases hf
theorem PBox.own (k b : Nat) {β : Type} : Own (fun (_ : β) W => PBox k b W) := fun s A B row hs hg hr => by
  refine (hg.block k (Array.getElem?_eq_some_iff.1 hs).1 fun e => ?_).trans hs
  obtain ⟨o, ho, hf⟩ := hr k e.symm
  rw [hs] at ho
  cases ho
  cases hf
def KpS (n₀ : Nat) (W W' : World) : Prop := Below n₀ W W' ∧ SetsStay W W'
theorem kpS_t {n₀ : Nat} {A B C : World} (h : KpS n₀ A B) (h' : KpS n₀ B C) : KpS n₀ A C := ⟨h.1.trans h'.1, h.2.trans h'.2⟩
theorem stops_more {α : Type} {F : Fence} {n : Nat} {P : Program} {g : FuncId} {lb : Array Value} {encs : α → Array Value} {Kp Kp' : World → World → Prop} {S Sp : List α → Prop} {N : Nat} {w : World} (hK : ∀ A B, Kp' A B → Kp A B) (h : SeqStopsK F n P g lb encs Kp S Sp N w) : SeqStopsK F n P g lb encs Kp' S Sp N w :=
  fun l J Jx W hW h1 h2 hY h0 => h l J Jx W hW h1 h2 (fun pre x W1 hJ hl => (hY pre x W1 hJ hl).mono fun e W' he => he.elim (fun ⟨a, b, c⟩ => .inl ⟨a, b, hK _ _ c⟩) .inr) h0
theorem zed_set {h : Nat} {W : World} (hz : Zed h W) (a v e : Value) :
    ((((W.setCell ⟨h, 0, none⟩ a).setCell ⟨h, 1, none⟩ v).setCell ⟨h + 1, 0, none⟩ e).heap[h]? = some (.cells #[a, v] 24 (0, 0)) ∧ (((W.setCell ⟨h, 0, none⟩ a).setCell ⟨h, 1, none⟩ v).setCell ⟨h + 1, 0, none⟩ e).heap[h + 1]? = some (.cells #[e] 27 (0, 0))) ∧
      KeepsOthers W (((W.setCell ⟨h, 0, none⟩ a).setCell ⟨h, 1, none⟩ v).setCell ⟨h + 1, 0, none⟩ e) ∧ Below h W (((W.setCell ⟨h, 0, none⟩ a).setCell ⟨h, 1, none⟩ v).setCell ⟨h + 1, 0, none⟩ e) ∧
      ∀ {n N b r : Nat} {u : Value} {us : List PEl}, h + 1 < N → UN n N W b u r us → UN n N (((W.setCell ⟨h, 0, none⟩ a).setCell ⟨h, 1, none⟩ v).setCell ⟨h + 1, 0, none⟩ e) b u r us := by
  have h1 : (W.setCell ⟨h, 0, none⟩ a).heap[h]? = some (.cells #[a, .slice none 0 0] 24 (0, 0)) := by
    simp only [World.setCell]
    rw [Array.getElem?_modify, if_pos rfl, hz.1]
    rfl
  have h2 : ((W.setCell ⟨h, 0, none⟩ a).setCell ⟨h, 1, none⟩ v).heap[h]? = some (.cells #[a, v] 24 (0, 0)) := by
    simp only [World.setCell] at h1 ⊢
    rw [Array.getElem?_modify, if_pos rfl, h1]
    rfl
  have h3 : ((W.setCell ⟨h, 0, none⟩ a).setCell ⟨h, 1, none⟩ v).heap[h + 1]? = some (.cells #[.int .i64 0] 27 (0, 0)) := by
    simp only [World.setCell]
    rw [Array.getElem?_modify, if_neg (by simp), Array.getElem?_modify, if_neg (by simp), hz.2]
  refine ⟨⟨?_, ?_⟩, (KeepsOthers.setCell _ _ _).trans ((KeepsOthers.setCell _ _ _).trans (KeepsOthers.setCell _ _ _)), (((Below.refl h W).setCell (p := ⟨h, 0, none⟩) (Nat.le_refl _) _).setCell (p := ⟨h, 1, none⟩) (Nat.le_refl _) _).setCell (p := ⟨h + 1, 0, none⟩) (Nat.le_succ _) _, fun hN hU => ?_⟩
  · simp only [World.setCell] at h2 ⊢
    rw [Array.getElem?_modify, if_neg (by simp), h2]
  · simp only [World.setCell] at h3 ⊢
    rw [Array.getElem?_modify, if_pos rfl, h3]
    rfl
  · exact ((hU.set (a := ⟨h, 0, none⟩) (by show h < _; omega) hz.1 (by decide) (by decide) (by decide) a).set (a := ⟨h, 1, none⟩) (by show h < _; omega) h1 (by decide) (by decide) (by decide) v).set (a := ⟨h + 1, 0, none⟩) hN h3 (by decide) (by decide) (by decide) e
theorem union_adds {n N : Nat} {b : Nat} {u : Value} {r : Nat} {us : List PEl} {er : Int} {l : List (List CD)} (hn : n ≤ 100) (w : World) (h : UN n N w b u r us) {A : Option Addr} {m c : Nat} {els : List CEl} (C0 : CondsAt w A m els) (hpre : ∀ e ∈ els, PreB n e) (hm : m ≤ 1000) (hN : N ≤ w.heap.size) (he : addD n (us.map PEl.dat) (els.map CEl.d) = (er, l)) :
    Calls Tryz.prog 74 #[.pointer (some ⟨b, 0, none⟩), .slice A m c] w fun e w' => e = .returned (.int .i64 er) ∧ (∃ u' us', us'.map PEl.dat = l ∧ UN n N w' b u' r us') ∧ Below N w w' ∧ KeepUR r w w' := by
  refine (union_add (c := c) hn w h C0 hpre hm hN).mono ?_
  rintro e w' ⟨p, hp, ⟨u', rfl, hU⟩, hb, hk⟩
  have h9 := add_dat (ps := us) hp
  rw [he] at h9
  simp only [Prod.mk.injEq] at h9
  rw [h9.1]
  exact ⟨rfl, ⟨u', _, h9.2, hU⟩, hb, hk⟩
set_option maxRecDepth 100000 in
set_option maxHeartbeats 8000000 in
theorem gathered_any {n : Nat} (hn : n ≤ 100) (D : Int) (m : Nat) (ps : List PEl) (w : World) (hcn : ∀ p ∈ ps, CondsAt w p.A p.n p.els) (hpre : ∀ p ∈ ps, (∀ e ∈ p.els, PreB n e) ∧ p.n ≤ 1000) (gf : FuncId) (lb : Array Value) (hent : Enters Tryz.prog gf)
    (hseq : ∀ w2, Below w.heap.size w w2 → SeqStopsK Fence.wide 4 Tryz.prog gf lb (pEnc ps) (KpS w.heap.size) (fun ys => ys = ps.attach) (fun pre => ∃ k, k ≤ m ∧ pre = ps.attach.take k) m w2) :
    Calls Tryz.prog 44 #[.int .i64 D, .func (.func gf) #[] lb] w fun e w' => GatherRet n w e w' D (gatherD n (ps.map PEl.dat)) := by
  have hro : Fence.wide.round = none := rfl
  have h1 : 1 ≤ 5 := by omega
  refine (callsIn_wide (n := 5)).1 ?_
  refine callsIn_of_wp_marks Tryz.func44 rfl trivial ?_ hro
  simp only [Tryz.ntmps44, List.size_toArray, List.length_cons, List.length_nil, Nat.reduceAdd, Nat.reduceSub, Array.replicate_succ, Array.replicate_zero, List.push_toArray, List.append_toArray, List.nil_append, List.cons_append]
  gi_wp2_with (refine ⟨trivial, ?_⟩; gi_at_call 73; refine (callsIn_wide.2 (union_new n _)).mono ?_; rintro e w1 ⟨⟨b, r, rfl, U1⟩, hb1⟩)
  generalize hO : (w.alloc (.cells #[.int .i64 0, .slice none 0 0] 24)).alloc (.cells #[.int .i64 0] 27) = w0 at *
  have hs0 : w0.heap.size = w.heap.size + 2 := by rw [← hO]; simp
  have Z0 : Zed w.heap.size w0 := by
    rw [← hO]
    refine ⟨(Below.heap_alloc _ _ _ (by simp)).trans (heap_alloc_new w _), ?_⟩
    have := heap_alloc_new (w.alloc (.cells #[.int .i64 0, .slice none 0 0] 24)) (.cells #[.int .i64 0] 27)
    rw [World.size_alloc] at this
    exact this
  have hB0 : Below w.heap.size w w0 := by rw [← hO]; exact ((Below.refl _ w).alloc (Nat.le_refl _) _).alloc (by simp) _
  clear hO
  have Z1 : Zed w.heap.size w1 := ⟨(hb1.block _ (by omega)).trans Z0.1, (hb1.block _ (by omega)).trans Z0.2⟩
  have hB1 : Below w.heap.size w w1 := hB0.trans (hb1.mono (by omega))
  have b2 := below_alloc w1 (.cells #[.pointer (some ⟨b, 0, none⟩)] 84)
  have PB : PBox w1.heap.size b (w1.alloc (.cells #[.pointer (some ⟨b, 0, none⟩)] 84)) := heap_alloc_new w1 _
  have U2 := U1.step b2
  have hs1 := hb1.size
  have Z2 : Zed w.heap.size (w1.alloc (.cells #[.pointer (some ⟨b, 0, none⟩)] 84)) := ⟨(b2.block _ (by omega)).trans Z1.1, (b2.block _ (by omega)).trans Z1.2⟩
  have hB2 : Below w.heap.size w (w1.alloc (.cells #[.pointer (some ⟨b, 0, none⟩)] 84)) := hB1.trans (b2.mono (by omega))
  have hr1 := U1.lt
  have hs2 : (w1.alloc (.cells #[.pointer (some ⟨b, 0, none⟩)] 84)).heap.size = w1.heap.size + 1 := by simp
  generalize w1.alloc (.cells #[.pointer (some ⟨b, 0, none⟩)] 84) = w2 at *
  clear Z0 Z1 hB0 hB1 b2 hb1 U1
  refine wpIn_rangeFunc_ownG hro h1 (gf := gf) (lb := lb) rfl trivial hent
    (hseq w2 hB2) (fun h h' => kpS_t h h') (fun W l o o' h1 h2 h3 h4 => ⟨belowK_b (w := w2) (by omega) W l o o' h1 h2 h3 h4, SetsStay.putObj h2 h3⟩) (Below.refl _ _) (fun _ => rfl)
    (fun pre W => ((∃ u us, UN n w0.heap.size W b u r us ∧ gatherD n (pre.map (fun x => x.1.dat)) = (0, us.map PEl.dat)) ∧ Zed w.heap.size W ∧ PBox w1.heap.size b W) ∧ Below w.heap.size w W)
    (fun cd pre W => (cd = .ret ∧ ∃ er l, gatherD n (pre.map (fun x => x.1.dat)) = (er, l) ∧ er ≠ 0 ∧ W.heap[w.heap.size]? = some (.cells #[.int .i64 0, .slice none 0 0] 24 (0, 0)) ∧ W.heap[w.heap.size + 1]? = some (.cells #[.int .i64 er] 27 (0, 0))) ∧ Below w.heap.size w W)
    ?own1 ?own2 ?start
    (fun x => { tmps := #[.int .i64 D, .func (.func gf) #[] lb, undef, undef, .pointer (some ⟨w.heap.size, 0, none⟩), .pointer (some ⟨w.heap.size + 1, 0, none⟩), .pointer (some ⟨w1.heap.size, 0, none⟩), .slice x.1.A x.1.n x.1.c, undef,
      .pointer (some ⟨b, 0, none⟩), .func (.func gf) #[] lb, .slice x.1.A x.1.n x.1.c, undef, undef, undef, undef, undef, undef, undef, undef, undef, undef, undef], defers := [] }) ?assign ?body ?done ?stop
  case own1 => exact OwnFrom.and (OwnFrom.and (fun s V V' row hs hg hr => by obtain ⟨u, us, hU, hx⟩ := hs; exact ⟨u, us, hU.turn (by omega) hg hr, hx⟩) (OwnFrom.and (Own.from (Zed.own _) _) (Own.from (PBox.own _ _) _))) (ownFrom_below (Nat.le_refl _) (by omega))
  case own2 =>
    intro cd
    refine OwnFrom.and (Own.from (fun s V V' row hs hg hr => ?_) _) (ownFrom_below (Nat.le_refl _) (by omega))
    obtain ⟨hc, er, l, h2, h3, h4, h5⟩ := hs
    refine ⟨hc, er, l, h2, h3, (hg.block _ (Array.getElem?_eq_some_iff.1 h4).1 fun e => ?_).trans h4, (hg.block _ (Array.getElem?_eq_some_iff.1 h5).1 fun e => ?_).trans h5⟩
    · obtain ⟨o, ho, hf⟩ := hr _ e.symm
      rw [h4] at ho
      cases ho
      cases hf
    · obtain ⟨o, ho, hf⟩ := hr _ e.symm
      rw [h5] at ho
      cases ho
      cases hf
  case start => exact ⟨⟨⟨_, [], U2, rfl⟩, Z2, PB⟩, hB2⟩
  case assign =>
    intro l x W K hK
    dsimp only [pEnc]
    gi_wp2
    exact hK
  case body =>
    rintro l pre x W ⟨⟨⟨u, us, hU, hg⟩, hZ, hPB⟩, hB⟩ _
    have hx := hpre x.1 x.2
    have hC : CondsAt W x.1.A x.1.n x.1.els := (hcn x.1 x.2).step hB
    have hN := hU.lt
    obtain ⟨er, l', hadd⟩ : ∃ er l', addD n (us.map PEl.dat) (x.1.els.map CEl.d) = (er, l') := ⟨_, _, rfl⟩
    have HG := Lib.hid ((gather_next hg x.1.dat).trans hadd)
    have HN := Lib.hid (show w0.heap.size ≤ W.heap.size by have := (Array.getElem?_eq_some_iff.1 hZ.2).1; omega)
    have HA := Lib.hid (union_adds (c := x.1.c) hn W hU hC hx.1 hx.2 HN.out hadd)
    have c6 : W.cell? ⟨w1.heap.size, 0, none⟩ = some (.pointer (some ⟨b, 0, none⟩)) := by rw [cell_of_row W _ 0 _ _ (0, 0) hPB]; rfl
    have HZ := Lib.hid hZ
    have HPB := Lib.hid hPB
    clear hadd hg hx hC hZ hPB
    by_cases h0 : er = 0
    · subst h0
      gi_wp2_with (refine ⟨trivial, ?_⟩; gi_at_call 74; refine (CallsIn.inRound l (callsIn_wide.2 HA.out)).mono ?_; rintro e w' ⟨rfl, ⟨u', us', hl', hU'⟩, hb', hk'⟩)
      have hZ' : Zed w.heap.size w' := ⟨(hb'.block _ (by omega)).trans HZ.out.1, (hb'.block _ (by omega)).trans HZ.out.2⟩
      have hPB' : PBox w1.heap.size b w' := hk'.u.rows _ _ _ _ HPB.out (.inr (.inr rfl))
      have hb9 : Below w.heap.size W w' := hb'.mono (by omega)
      refine ⟨hk'.from (by omega), ⟨hb9, hk'.s⟩, ⟨⟨u', us', hU', ?_⟩, hZ', hPB'⟩, hB.trans hb9⟩
      rw [List.map_append, hl']
      exact HG.out
    · have h0' : (er != 0) = true := by simpa using h0
      have h0'' : (er == 0) = false := by simpa using h0
      have HE := Lib.hid h0
      clear h0
      gi_wp2_with (refine ⟨trivial, ?_⟩; gi_at_call 74; refine (CallsIn.inRound l (callsIn_wide.2 HA.out)).mono ?_; rintro e w' ⟨rfl, ⟨u', us', hl', hU'⟩, hb', hk'⟩; have hZ' : Zed w.heap.size w' := (⟨(hb'.block _ (by omega)).trans HZ.out.1, (hb'.block _ (by omega)).trans HZ.out.2⟩); have z0 : w'.cell? ⟨w.heap.size, 0, none⟩ = some (.int .i64 0) := (by rw [cell_of_row w' _ 0 _ _ (0, 0) hZ'.1]; rfl); have z1 : w'.cell? ⟨w.heap.size, 1, none⟩ = some (.slice none 0 0) := (by rw [cell_of_row w' _ 1 _ _ (0, 0) hZ'.1]; rfl); have z2 : w'.cell? ⟨w.heap.size + 1, 0, none⟩ = some (.int .i64 0) := (by rw [cell_of_row w' _ 0 _ _ (0, 0) hZ'.2]; rfl); have f0 : w'.frozen? ⟨w.heap.size, 0, none⟩ = false := (by simp [World.frozen?, hZ'.1]); have f1 : w'.frozen? ⟨w.heap.size, 1, none⟩ = false := (by simp [World.frozen?, hZ'.1]); have f2 : w'.frozen? ⟨w.heap.size + 1, 0, none⟩ = false := (by simp [World.frozen?, hZ'.2]); have HZ2 := Lib.hid hZ'; clear hZ')
      obtain ⟨⟨y1, y2⟩, yk, yb, _⟩ := zed_set HZ2.out (.int .i64 0) (.slice none 0 0) (.int .i64 er)
      refine ⟨(hk'.from (by omega)).trans (yk.from _), ⟨rfl, er, l', ?_, HE.out, y1, y2⟩, hB.trans ((hb'.mono (by omega)).trans yb)⟩
      rw [List.map_append]
      exact HG.out
  case done =>
    rintro D' ys W hD rfl ⟨⟨⟨u, us, hU, hg⟩, hZ, hPB⟩, hB⟩ hK'
    have c6 : W.cell? ⟨w1.heap.size, 0, none⟩ = some (.pointer (some ⟨b, 0, none⟩)) := by rw [cell_of_row W _ 0 _ _ (0, 0) hPB]; rfl
    have z0 : W.cell? ⟨w.heap.size, 0, none⟩ = some (.int .i64 0) := by rw [cell_of_row W _ 0 _ _ (0, 0) hZ.1]; rfl
    have z1 : W.cell? ⟨w.heap.size, 1, none⟩ = some (.slice none 0 0) := by rw [cell_of_row W _ 1 _ _ (0, 0) hZ.1]; rfl
    have z2 : W.cell? ⟨w.heap.size + 1, 0, none⟩ = some (.int .i64 0) := by rw [cell_of_row W _ 0 _ _ (0, 0) hZ.2]; rfl
    have f0 : W.frozen? ⟨w.heap.size, 0, none⟩ = false := by simp [World.frozen?, hZ.1]
    have f1 : W.frozen? ⟨w.heap.size, 1, none⟩ = false := by simp [World.frozen?, hZ.1]
    have f2 : W.frozen? ⟨w.heap.size + 1, 0, none⟩ = false := by simp [World.frozen?, hZ.2]
    have HA := Lib.hid (union_pieces W hU)
    obtain ⟨uA, uc, rfl⟩ := hU.slice
    have HG := Lib.hid hg
    have HZ := Lib.hid hZ
    have HPB := Lib.hid hPB
    have HU := Lib.hid hU
    clear hg hZ hPB hU
    gi_wp2_with (refine ⟨trivial, ?_⟩; gi_at_call 75; refine (callsIn_wide.2 HA.out).mono ?_; rintro e w' ⟨rfl, rfl⟩)
    obtain ⟨⟨y1, y2⟩, yk, yb, yu⟩ := zed_set HZ.out (.int .i64 D) (.slice uA us.length uc) (.int .i64 0)
    have hK2 := yk.same D' _ hK' rfl
    have hU3 := yu (N := w0.heap.size) (by omega) HU.out
    refine ⟨by simp, .inl ⟨_, _, rfl, run_takeDeferred hK2, ?_⟩⟩
    generalize ((W.setCell ⟨w.heap.size, 0, none⟩ (.int .i64 D)).setCell ⟨w.heap.size, 1, none⟩ (.slice uA us.length uc)).setCell ⟨w.heap.size + 1, 0, none⟩ (.int .i64 0) = W3 at *
    have hg3 := grownBy_putObj' W3 D' (.deferred none)
    have hr3 : ∀ j, some D' = some j → w2.heap.size ≤ j ∧ ∃ o : Obj, W3.heap[j]? = some o ∧ o.isCells = false := fun j e => by cases e; exact ⟨hD, _, hK2, rfl⟩
    have hU4 := hU3.turn (by omega) hg3 hr3
    have y1' : (W3.putObj D' (.deferred none)).heap[w.heap.size]? = some (.cells #[.int .i64 D, .slice uA us.length uc] 24 (0, 0)) := (World.putObj_heap_other (by omega)).trans y1
    have y2' : (W3.putObj D' (.deferred none)).heap[w.heap.size + 1]? = some (.cells #[.int .i64 0] 27 (0, 0)) := (World.putObj_heap_other (by omega)).trans y2
    have hc0 : (W3.putObj D' (.deferred none)).cell? ⟨w.heap.size, 0, none⟩ = some (.int .i64 D) := by rw [cell_of_row _ _ 0 _ _ (0, 0) y1']; rfl
    have hc1 : (W3.putObj D' (.deferred none)).cell? ⟨w.heap.size, 1, none⟩ = some (.slice uA us.length uc) := by rw [cell_of_row _ _ 1 _ _ (0, 0) y1']; rfl
    have hc2 : (W3.putObj D' (.deferred none)).cell? ⟨w.heap.size + 1, 0, none⟩ = some (.int .i64 0) := by rw [cell_of_row _ _ 0 _ _ (0, 0) y2']; rfl
    have hB4 := hB.trans (yb.trans (belowK_b (w := w) (Nat.le_refl _) W3 D' (.deferred (some [])) (.deferred none) (by have := hB2.size; omega) hK2 rfl rfl))
    obtain ⟨A5, c5, he5, hP5, hA5⟩ := hU4.pieces
    cases he5
    have HGE := Lib.hid (show gatherD n (ps.map PEl.dat) = (0, us.map PEl.dat) by
      rw [← HG.out]
      congr 1
      rw [← List.attach_map_subtype_val ps, List.map_map, List.attach_map_subtype_val]
      rfl)
    refine ⟨.tuple #[.agg #[.int .i64 D, .slice uA us.length uc], .int .i64 0], ?_, ?_⟩
    · simp [results, Tryz.f44, go_sem, hc0, hc1, hc2]
    · rw [HGE.out]
      exact ⟨_, _, _, us, rfl, hP5, hU4.ok, rfl, (fun h => let ⟨g, o, h1, h2⟩ := hA5 h; ⟨g, o, h1, by omega⟩), hB4⟩
  case stop =>
    rintro D' cd pre W hD ⟨k, hk, rfl⟩ ⟨⟨rfl, er, l, hg, her, hz1, hz2⟩, hB⟩ hK'
    gi_wp2
    refine ⟨by simp, .inl ⟨_, _, rfl, run_takeDeferred hK', ?_⟩⟩
    have y1' : (W.putObj D' (.deferred none)).heap[w.heap.size]? = some (.cells #[.int .i64 0, .slice none 0 0] 24 (0, 0)) := (World.putObj_heap_other (by omega)).trans hz1
    have y2' : (W.putObj D' (.deferred none)).heap[w.heap.size + 1]? = some (.cells #[.int .i64 er] 27 (0, 0)) := (World.putObj_heap_other (by omega)).trans hz2
    have hc0 : (W.putObj D' (.deferred none)).cell? ⟨w.heap.size, 0, none⟩ = some (.int .i64 0) := by rw [cell_of_row _ _ 0 _ _ (0, 0) y1']; rfl
    have hc1 : (W.putObj D' (.deferred none)).cell? ⟨w.heap.size, 1, none⟩ = some (.slice none 0 0) := by rw [cell_of_row _ _ 1 _ _ (0, 0) y1']; rfl
    have hc2 : (W.putObj D' (.deferred none)).cell? ⟨w.heap.size + 1, 0, none⟩ = some (.int .i64 er) := by rw [cell_of_row _ _ 0 _ _ (0, 0) y2']; rfl
    have hB4 := hB.trans (belowK_b (w := w) (Nat.le_refl _) W D' (.deferred (some [])) (.deferred none) (by have := hB2.size; omega) hK' rfl rfl)
    have HGE := Lib.hid (show gatherD n (ps.map PEl.dat) = (er, l) by
      have h9 : (ps.attach.take k).map (fun x => x.1.dat) ++ (ps.attach.drop k).map (fun x => x.1.dat) = ps.map PEl.dat := by
        rw [← List.map_append, List.take_append_drop]
        conv => rhs; rw [← List.attach_map_subtype_val ps, List.map_map]
        rfl
      rw [← h9, gather_stuck (by rw [hg]; exact her), hg])
    refine ⟨.tuple #[.agg #[.int .i64 0, .slice none 0 0], .int .i64 er], ?_, ?_⟩
    · simp [results, Tryz.f44, go_sem, hc0, hc1, hc2]
    · rw [HGE.out]
      refine ⟨none, 0, 0, [], ?_, ⟨rfl, by omega, fun h => absurd h (by omega), fun p h => nomatch h⟩, (fun p h => nomatch h), ?_, (fun h => absurd h (by omega)), hB4⟩
      · show Ending.returned (.tuple #[.agg #[.int .i64 0, .slice none 0 0], .int .i64 er]) = .returned (.tuple #[.agg #[.int .i64 (if er ≠ 0 then 0 else D), .slice none 0 0], .int .i64 er])
        rw [if_pos her]
      · show [] = (if er ≠ 0 then [] else l)
        rw [if_pos her]
theorem set_gathered {n : Nat} (hn : n ≤ 100) (D : Int) (A : Option Addr) (m c : Nat) (ps : List PEl) (w : World) (Bs : Nat) (hBs : w.cell? ⟨Bs, 0, none⟩ = some (.slice A m c)) (hBl : Bs < w.heap.size) (P0 : PiecesAt w A m ps) (hpre : ∀ p ∈ ps, (∀ e ∈ p.els, PreB n e) ∧ p.n ≤ 1000) :
    Calls Tryz.prog 44 #[.int .i64 D, .func (.func 76) #[] #[.pointer (some ⟨Bs, 0, none⟩)]] w fun e w' => GatherRet n w e w' D (gatherD n (ps.map PEl.dat)) :=
  gathered_any hn D m ps w P0.conds hpre _ _ (enters_of Tryz.func76 (by kernel_rfl) rfl) fun w2 hB2 =>
    stops_more (fun A B h => h.1) (values_stops Fence.wide 4 trivial rfl (by omega) Bs w.heap.size A m c ps w2 (Nat.lt_of_lt_of_le hBl hB2.size) ((hB2.cell (p := ⟨Bs, 0, none⟩) hBl).trans hBs) P0.len P0.small hB2.size (fun h => (P0.step hB2).cells h |>.elim fun b' h' => h'.elim fun off h'' => ⟨b', off, h''.1, (by obtain ⟨b3, off3, hA3, hb3, _⟩ := P0.cells h; rw [h''.1] at hA3; cases hA3; exact hb3), h''.2.2⟩))
end Go.Proofs.YtkgnlloioaobiaaGreat
namespace Go.Proofs.YtkgnlloioaobiaaGreat
open Go.RowKit
abbrev setV (D : Int) (A : Option Addr) (n c : Nat) : Value := .agg #[.int .i64 D, .slice A n c]
def SetBox (w : World) (b : Nat) (D : Int) (A : Option Addr) (n c : Nat) : Prop := w.heap[b]? = some (.cells #[.int .i64 D, .slice A n c] 24 (0, 0))
section
variable {w w' : World} {b : Nat} {D : Int} {A : Option Addr} {n c : Nat}
theorem SetBox.new (w : World) (D : Int) (A : Option Addr) (n c : Nat) : SetBox (w.alloc (.cells #[.int .i64 D, .slice A n c] 24)) w.heap.size D A n c := heap_alloc_new w _
theorem SetBox.lt (h : SetBox w b D A n c) : b < w.heap.size := (Array.getElem?_eq_some_iff.1 h).1
theorem SetBox.below {B : Nat} (h : SetBox w b D A n c) (hb : Below B w w') (hB : b < B) : SetBox w' b D A n c := (hb.block b hB).trans h
theorem SetBox.step (h : SetBox w b D A n c) (hb : Below w.heap.size w w') : SetBox w' b D A n c := h.below hb h.lt
theorem SetBox.alloc (h : SetBox w b D A n c) (o : Obj) : SetBox (w.alloc o) b D A n c := h.step (below_alloc w o)
theorem SetBox.c0 (h : SetBox w b D A n c) : w.cell? ⟨b, 0, none⟩ = some (.int .i64 D) := by rw [cell_of_row w b 0 _ _ (0, 0) h]; rfl
theorem SetBox.c1 (h : SetBox w b D A n c) : w.cell? ⟨b, 1, none⟩ = some (.slice A n c) := by rw [cell_of_row w b 1 _ _ (0, 0) h]; rfl
theorem SetBox.f (h : SetBox w b D A n c) (j : Nat) : w.frozen? ⟨b, j, none⟩ = false := by
  unfold SetBox at h; simp [World.frozen?, h]
end
def CEl.ok (e : CEl) : Bool := validC e.q e.M e.xs e.K
def condsE (D : Int) (els : List CEl) : Int := if els.all CEl.ok = true then (if els.all (fun e => (e.n : Int) == D) = true then 0 else 2) else 1
def pieceOk (D : Int) (p : PEl) : Bool := decide (p.els.length ≤ 96) && decide (condsE D p.els = 0)
def validS (D : Int) (ps : List PEl) : Bool := decide (0 ≤ D ∧ D ≤ 12 ∧ ps.length ≤ 400) && ps.all (pieceOk D)
theorem all_not {α : Type} {p : α → Bool} {l : List α} {i : Nat} {x : α} (h : l[i]? = some x) (hp : p x = false) : l.all p = false := by
  obtain ⟨hi, e⟩ := List.getElem?_eq_some_iff.1 h
  rw [Bool.eq_false_iff]
  intro ha
  rw [List.all_eq_true] at ha
  rw [ha x (e ▸ List.getElem_mem hi)] at hp
  cases hp
theorem all_yes {α : Type} {p : α → Bool} {l : List α} (h : ∀ j x, j < l.length → l[j]? = some x → p x = true) : l.all p = true := by
  rw [List.all_eq_true]
  intro x hx
  obtain ⟨j, hj, rfl⟩ := List.getElem_of_mem hx
  exact h j _ hj (List.getElem?_eq_getElem hj)
set_option maxHeartbeats 4000000 in
theorem set_conds (A : Option Addr) (m c : Nat) (els : List CEl) (D : Int) (w : World) (C0 : CondsAt w A m els) :
    Calls Tryz.prog 57 #[.slice A m c, .int .i64 D] w fun e w' => e = .returned (.int .i64 (condsE D els)) ∧ Below w.heap.size w w' := by
  have hsm := C0.small
  have HL := Lib.hid C0.len
  obtain ⟨er, her⟩ : ∃ er, condsE D els = er := ⟨_, rfl⟩
  rw [her]
  have HE := Lib.hid her
  clear her
  go_enter Tryz.func57, Tryz.ntmps57
  go_wp2
  go_loopw [11] (fun v wr => ∃ i : Nat, i ≤ m ∧ v = .int .i64 i ∧ (∀ j x, j < i → els[j]? = some x → x.ok = true) ∧ Below w.heap.size w wr) (fun v _ => m - (intOf v).toNat)
  case atStart => exact ⟨0, Nat.zero_le _, rfl, (fun j x h => absurd h (by omega)), Below.refl _ _⟩
  case round =>
    obtain ⟨i, hi, rfl, hgood, hbr⟩ := hrel
    have HG := Lib.hid hgood
    clear hgood
    by_cases hlt : i < m
    · obtain ⟨b, off, e, rfl, hblt, hej, hmem, hcs, hin⟩ := (C0.step hbr).at hlt; obtain ⟨x0, x1, x2, x3⟩ := hcs; have HEJ := Lib.hid hej; obtain ⟨eq, eM, eA, en, ec, eK, exs⟩ := e; simp only at x0 x1 x2 x3 hin; have hq1 : (i : Int) < m := (by omega); have b5 := below_alloc wr (.cells #[.int .i64 eq, .int .i64 eM, .slice eA en ec, .int .i64 eK] 56); have y1 := hin.step b5; have X1 := CBox.new wr eq eM eA en ec eK; have z2 := X1.c2; have hbr1 := hbr.trans (b5.mono hbr.size); clear b5 hmem hej hin
      cases hv : validC eq eM exs eK
      · have HV := Lib.hid hv
        have HR := Lib.hid (show er = 1 by rw [← HE.out]; unfold condsE; rw [all_not HEJ.out hv]; rfl)
        clear hv
        go_wp2_with (go_at_call 84; refine (cond_valid _ _ _ _ _ _ exs _ y1).mono ?_; rintro e w1 ⟨rfl, hb⟩; rw [HV.out]; replace hbr1 := hbr1.trans (hb.mono hbr1.size))
        go_ret
        exact ⟨ret1 (vint HR.out.symm), hbr1⟩
      · have HV := Lib.hid hv
        clear hv
        go_wp2_with (go_at_call 84; refine (cond_valid _ _ _ _ _ _ exs _ y1).mono ?_; rintro e w1 ⟨rfl, hb⟩; rw [HV.out]; replace hbr1 := hbr1.trans (hb.mono hbr1.size))
        go_roundw
        case rel => exact ⟨i + 1, by omega, by go_num, (fun j x hj hjx => by
          rcases Nat.lt_or_eq_of_le (Nat.le_of_lt_succ hj) with h | rfl
          · exact HG.out j x h hjx
          · rw [HEJ.out] at hjx; cases hjx; exact HV.out), hbr1⟩
        case measure => simp [intOf]; omega
    · have hge : ¬ ((i : Int) < m) := by omega
      have HA := Lib.hid (show els.all CEl.ok = true from all_yes fun j x hj => HG.out j x (by have := HL.out; omega))
      go_wp2
      clear hge
      generalize hw2 : wr = w2 at *
      clear hw2 HG
      go_loopw [21] (fun v wr => ∃ i : Nat, i ≤ m ∧ v = .int .i64 i ∧ (∀ j x, j < i → els[j]? = some x → ((x.n : Int) == D) = true) ∧ Below w.heap.size w wr) (fun v _ => m - (intOf v).toNat)
      case atStart => exact ⟨0, Nat.zero_le _, rfl, (fun j x h => absurd h (by omega)), hbr⟩
      clear hbr
      case round =>
        obtain ⟨i, hi, rfl, hgood, hbr⟩ := hrel
        have HG := Lib.hid hgood
        clear hgood
        by_cases hlt : i < m
        · obtain ⟨b, off, e, rfl, hblt, hej, hmem, hcs, hin⟩ := (C0.step hbr).at hlt; obtain ⟨x0, x1, x2, x3⟩ := hcs; have HEJ := Lib.hid hej; obtain ⟨eq, eM, eA, en, ec, eK, exs⟩ := e; simp only at x0 x1 x2 x3 hin; have hq1 : (i : Int) < m := (by omega); have b5 := below_alloc wr (.cells #[.int .i64 eq, .int .i64 eM, .slice eA en ec, .int .i64 eK] 56); have y1 := hin.step b5; have X1 := CBox.new wr eq eM eA en ec eK; have z2 := X1.c2; have hbr1 := hbr.trans (b5.mono hbr.size); clear b5 hmem hej hin
          by_cases hn : (en : Int) = D
          · have HN := Lib.hid hn
            have q1 : ((en : Int) != D) = false := by simpa using hn
            have q2 : ((en : Int) == D) = true := by simpa using hn
            clear hn
            go_wp2
            go_roundw
            case rel => exact ⟨i + 1, by omega, by go_num, (fun j x hj hjx => by
              rcases Nat.lt_or_eq_of_le (Nat.le_of_lt_succ hj) with h | rfl
              · exact HG.out j x h hjx
              · rw [HEJ.out] at hjx; cases hjx; simpa using HN.out), hbr1⟩
            case measure => simp [intOf]; omega
          · have HR := Lib.hid (show er = 2 by rw [← HE.out]; unfold condsE; rw [if_pos HA.out, all_not (p := fun e : CEl => (e.n : Int) == D) HEJ.out (by simpa using hn)]; rfl)
            have q1 : ((en : Int) != D) = true := by simpa using hn
            have q2 : ((en : Int) == D) = false := by simpa using hn
            clear hn
            go_wp2
            go_ret
            exact ⟨ret1 (vint HR.out.symm), hbr1⟩
        · have hge : ¬ ((i : Int) < m) := by omega
          have HR := Lib.hid (show er = 0 by rw [← HE.out]; unfold condsE; rw [if_pos HA.out, if_pos (all_yes fun j x hj => HG.out j x (by have := HL.out; omega))])
          go_wp2
          go_ret
          exact ⟨ret1 (vint HR.out.symm), hbr⟩
theorem validS_out {D : Int} {ps : List PEl} (h : ¬ (0 ≤ D ∧ D ≤ 12 ∧ ps.length ≤ 400)) : validS D ps = false := by
  unfold validS; rw [decide_eq_false h]; rfl
theorem validS_in {D : Int} {ps : List PEl} (h : 0 ≤ D ∧ D ≤ 12 ∧ ps.length ≤ 400) : validS D ps = ps.all (pieceOk D) := by
  unfold validS; rw [decide_eq_true h]; rfl
set_option maxHeartbeats 4000000 in
theorem set_valid (D : Int) (A : Option Addr) (n c : Nat) (ps : List PEl) (w : World) (h : PiecesAt w A n ps) :
    Calls Tryz.prog 43 #[setV D A n c] w fun e w' => e = .returned (.bool (validS D ps)) ∧ Below w.heap.size w w' := by
  have hB := below_alloc w (.cells #[.int .i64 D, .slice A n c] 24)
  have P0 := h.step hB
  have B1 := SetBox.new w D A n c
  have c0 := B1.c0
  have c1 := B1.c1
  have hl := h.len
  have hsm := h.small
  by_cases hd : 0 ≤ D ∧ D ≤ 12 ∧ ps.length ≤ 400
  · have HE := Lib.hid (validS_in hd)
    obtain ⟨v, hv⟩ : ∃ v, validS D ps = v := ⟨_, rfl⟩
    rw [hv] at HE ⊢
    obtain ⟨hd0, hd1, hd2⟩ := hd
    have hn : (n : Int) ≤ 400 := by omega
    have q1 : ¬ (400 : Int) < (n : Int) := by omega
    have HL := Lib.hid hl
    clear hv h hd2 hl
    go_enter Tryz.func43, Tryz.ntmps43
    go_wp2
    generalize hw0 : w.alloc (.cells #[.int .i64 D, .slice A n c] 24) = w0 at *
    clear hw0 q1
    go_loopw [22] (fun u wr => ∃ i : Nat, i ≤ n ∧ u = .int .i64 i ∧ (∀ j x, j < i → ps[j]? = some x → pieceOk D x = true) ∧ Below w0.heap.size w0 wr) (fun u _ => n - (intOf u).toNat)
    case atStart => exact ⟨0, Nat.zero_le _, rfl, (fun j x h => absurd h (by omega)), Below.refl _ _⟩
    case round =>
      obtain ⟨i, hi, rfl, hgood, hbr⟩ := hrel
      have HG := Lib.hid hgood
      have B2 := B1.step hbr
      have c0 := B2.c0
      clear hgood
      by_cases hlt : i < n
      · obtain ⟨b, off, p, rfl, hblt, hpj, hmem, hcell, hCp⟩ := (P0.step hbr).at hlt; have HPJ := Lib.hid hpj; obtain ⟨pA, pn, pc, pels⟩ := p; simp only at hcell hCp; have hq1 : (i : Int) < n := (by omega); have hpl := hCp.len; have hps := hCp.small; clear hmem hpj
        have hpo : pieceOk D ⟨pA, pn, pc, pels⟩ = (decide (pels.length ≤ 96) && decide (condsE D pels = 0)) := rfl
        by_cases h96 : pn ≤ 96
        · obtain ⟨ce, hce⟩ : ∃ ce, condsE D pels = ce := ⟨_, rfl⟩
          rw [hce, hpl, decide_eq_true h96, Bool.true_and] at hpo
          have HCE := Lib.hid hce
          have q96 : ¬ (96 : Int) < (pn : Int) := by omega
          have HPO := Lib.hid hpo
          have HHB := Lib.hid hbr
          clear hce hpo hpl
          by_cases h0 : ce = 0
          · subst h0
            go_wp2_with (go_at_call 57; refine (set_conds _ _ _ _ _ _ hCp).mono ?_; rintro e w1 ⟨rfl, hb⟩; rw [HCE.out]; replace hbr := hbr.trans (hb.mono hbr.size))
            go_roundw
            case rel => exact ⟨i + 1, by omega, by go_num, (fun j x hj hjx => by
              rcases Nat.lt_or_eq_of_le (Nat.le_of_lt_succ hj) with h | rfl
              · exact HG.out j x h hjx
              · rw [HPJ.out] at hjx; cases hjx; rw [HPO.out]; rfl), hbr⟩
            case measure => simp [intOf]; omega
          · have HV := Lib.hid (show v = false by rw [HE.out, all_not HPJ.out (by rw [HPO.out]; exact decide_eq_false h0)])
            have q1 : (ce != 0) = true := by simpa using h0
            have q2 : (ce == 0) = false := by simpa using h0
            clear h0
            go_wp2_with (go_at_call 57; refine (set_conds _ _ _ _ _ _ hCp).mono ?_; rintro e w1 ⟨rfl, hb⟩; rw [HCE.out]; replace hbr := hbr.trans (hb.mono hbr.size))
            go_ret
            exact ⟨ret_bool HV.out.symm, below_step hB hbr⟩
        · have HV := Lib.hid (show v = false by rw [HE.out, all_not HPJ.out (by rw [hpo, hpl, decide_eq_false h96]; rfl)])
          have q96 : (96 : Int) < (pn : Int) := by omega
          clear hpo hpl
          go_wp2
          go_ret
          exact ⟨ret_bool HV.out.symm, below_step hB hbr⟩
      · have hge : ¬ ((i : Int) < n) := by omega
        have HV := Lib.hid (show v = true by rw [HE.out]; exact all_yes fun j x hj => HG.out j x (by have := HL.out; omega))
        go_wp2
        go_ret
        exact ⟨ret_bool HV.out.symm, below_step hB hbr⟩
  · have HE := Lib.hid (validS_out hd)
    rw [hl] at hd
    rcases (show D < 0 ∨ (0 ≤ D ∧ 12 < D) ∨ (0 ≤ D ∧ D ≤ 12 ∧ 400 < n) by omega) with h0 | ⟨h0, h1⟩ | ⟨h0, h1, h2⟩
    · clear hd
      go_enter Tryz.func43, Tryz.ntmps43
      go_wp2
      go_ret
      exact ⟨ret_bool HE.out.symm, hB⟩
    · clear hd
      go_enter Tryz.func43, Tryz.ntmps43
      go_wp2
      go_ret
      exact ⟨ret_bool HE.out.symm, hB⟩
    · have h3 : (400 : Int) < (n : Int) := by omega
      clear hd
      go_enter Tryz.func43, Tryz.ntmps43
      go_wp2
      go_ret
      exact ⟨ret_bool HE.out.symm, hB⟩
end Go.Proofs.YtkgnlloioaobiaaGreat
namespace Go.Proofs.YtkgnlloioaobiaaGreat
open Go.RowKit Go.Shelf
theorem piece_pre {D : Int} {p : PEl} (hD : 0 ≤ D) (h : pieceOk D p = true) : (∀ e ∈ p.els, PreB D.toNat e) ∧ p.els.length ≤ 96 := by
  unfold pieceOk at h
  rw [Bool.and_eq_true] at h
  obtain ⟨h1, h2⟩ := h
  have h1 := of_decide_eq_true h1
  have h2 := of_decide_eq_true h2
  refine ⟨fun e he => ?_, h1⟩
  unfold condsE at h2
  split at h2
  · rename_i hok
    split at h2
    · rename_i hdim
      have hk := List.all_eq_true.1 hok e he
      have hd := List.all_eq_true.1 hdim e he
      have hn : (e.n : Int) = D := by simpa using hd
      have hk' := hk
      unfold CEl.ok validC at hk'
      rw [Bool.and_eq_true] at hk'
      obtain ⟨_, hK, hx⟩ := validB_true.1 hk'.1
      have hK := fitsB_true.1 hK
      exact ⟨by omega, validC_ok hk, by omega, fun x hxm => by have := fitsB_true.1 (hx x hxm); omega⟩
    · omega
  · omega
theorem valid_parts {D : Int} {ps : List PEl} (h : validS D ps = true) : (0 ≤ D ∧ D ≤ 12 ∧ ps.length ≤ 400) ∧ ∀ p ∈ ps, (∀ e ∈ p.els, PreB D.toNat e) ∧ p.els.length ≤ 96 := by
  unfold validS at h
  rw [Bool.and_eq_true] at h
  have h1 := of_decide_eq_true h.1
  exact ⟨h1, fun p hp => piece_pre h1.1 (List.all_eq_true.1 h.2 p hp)⟩
theorem values_at (A : Option Addr) (n c : Nat) (w : World) :
    Calls Tryz.prog 45 #[.slice A n c] w fun e w' => ∃ Bs, e = .returned (.func (.func 76) #[] #[.pointer (some ⟨Bs, 0, none⟩)]) ∧ Bs < w'.heap.size ∧ w'.cell? ⟨Bs, 0, none⟩ = some (.slice A n c) ∧ Below w.heap.size w w' := by
  refine (values A n c w).mono ?_
  rintro e w' ⟨rfl, rfl⟩
  exact ⟨_, rfl, by simp, by rw [cell_of_row _ _ 0 _ _ (0, 0) (heap_alloc_new w _)]; rfl, below_alloc w _⟩
theorem SetBox.put {w : World} {b : Nat} {D : Int} {A : Option Addr} {n c : Nat} (h : SetBox w b D A n c) (D' : Int) (A' : Option Addr) (n' c' : Nat) : SetBox ((w.setCell ⟨b, 0, none⟩ (.int .i64 D')).setCell ⟨b, 1, none⟩ (.slice A' n' c')) b D' A' n' c' := by
  unfold SetBox at h ⊢
  simp only [World.setCell]
  rw [Array.getElem?_modify, if_pos rfl, Array.getElem?_modify, if_pos rfl, h]
  rfl
theorem below_put {w : World} {N b : Nat} (hb : N ≤ b) (x y : Value) : Below N w ((w.setCell ⟨b, 0, none⟩ x).setCell ⟨b, 1, none⟩ y) := ((Below.refl N w).setCell (p := ⟨b, 0, none⟩) hb x).setCell (p := ⟨b, 1, none⟩) hb y
theorem put_other {w : World} {b k : Nat} (hk : k ≠ b) (x y : Value) : ((w.setCell ⟨b, 0, none⟩ x).setCell ⟨b, 1, none⟩ y).heap[k]? = w.heap[k]? := by
  simp only [World.setCell]
  rw [Array.getElem?_modify, if_neg fun e => hk e.symm, Array.getElem?_modify, if_neg fun e => hk e.symm]
theorem SetBox.keepU {w : World} {b : Nat} {D : Int} {A : Option Addr} {n c : Nat} (h : SetBox w b D A n c) (x y : Value) : KeepU w ((w.setCell ⟨b, 0, none⟩ x).setCell ⟨b, 1, none⟩ y) := by
  refine ⟨by simp [World.setCell], fun k cs t fz e ht => (put_other (fun e' => ?_) x y).trans e⟩
  unfold SetBox at h
  rw [e', h] at e
  simp only [Option.some.injEq, Obj.cells.injEq] at e
  rcases ht with rfl | rfl | rfl
  · exact absurd e.2.1 (by decide)
  · exact absurd e.2.1 (by decide)
  · exact absurd e.2.1 (by decide)
set_option maxHeartbeats 4000000 in
theorem set_normal (D : Int) (A : Option Addr) (n c : Nat) (ps : List PEl) (w : World) (h : PiecesAt w A n ps) (hv : validS D ps = true) :
    Calls Tryz.prog 11 #[setV D A n c] w fun e w' => GatherRet D.toNat w e w' D (gatherD D.toNat (ps.map PEl.dat)) := by
  have HV := Lib.hid hv
  have hvp := valid_parts hv
  have B0 := (below_alloc w (.cells #[.int .i64 D, .slice A n c] 24))
  have B1 := SetBox.new w D A n c
  have B2 := B1.alloc (.cells #[.int .i64 0, .slice none 0 0] 24)
  have X2 := SetBox.new (w.alloc (.cells #[.int .i64 D, .slice A n c] 24)) 0 none 0 0
  rw [World.size_alloc] at X2
  have hb := below_step B0 (below_alloc _ (.cells #[.int .i64 0, .slice none 0 0] 24))
  have P2 := h.step hb
  have c0 := B2.c0
  have c1 := B2.c1
  have HPR := Lib.hid (show ∀ p ∈ ps, (∀ e ∈ p.els, PreB D.toNat e) ∧ p.n ≤ 1000 from fun p hp => ⟨(hvp.2 p hp).1, by have h1 := (hvp.2 p hp).2; have := (h.conds p hp).len; omega⟩)
  have HD := Lib.hid (show D.toNat ≤ 100 by omega)
  obtain ⟨gd, hgd⟩ : ∃ gd, gatherD D.toNat (ps.map PEl.dat) = gd := ⟨_, rfl⟩
  have HGD := Lib.hid hgd
  rw [hgd]
  obtain ⟨D', hD'⟩ : ∃ D', (if gd.1 ≠ 0 then (0 : Int) else D) = D' := ⟨_, rfl⟩
  have HDD := Lib.hid hD'
  clear hgd hD'
  clear hv B0 B1 h hvp
  go_enter Tryz.func11, Tryz.ntmps11
  go_wp2_with (go_at_call 43; refine (set_valid D A n c ps _ P2).mono ?_; rintro e w1 ⟨rfl, hb1⟩; rw [HV.out]; replace hb := below_step hb hb1; replace B2 := B2.step hb1; replace X2 := X2.step hb1; replace P2 := P2.step hb1; clear c0 c1; have x0 := B2.c0; have x1 := B2.c1)
  replace hb := hb.drew
  replace X2 := X2.step (Below.refl _ w1).drew
  replace B2 := B2.step (Below.refl _ w1).drew
  replace P2 := P2.step (Below.refl _ w1).drew
  go_region_held3 (fun W => W.cell? ⟨w.heap.size, 0, none⟩ = some (.int .i64 D) ∧ W.cell? ⟨w.heap.size, 1, none⟩ = some (.slice A n c)) (first | with_reducible exact ⟨x0, x1⟩ | with_reducible exact ⟨y0, y1⟩ | with_reducible exact ⟨z0, z1⟩ | go_keep)
    (first
      | (go_at_call 45; refine (values_at A n c _).mono ?_; rintro e w2 ⟨Bs, rfl, hBl, hBc, hb2⟩; have hB2 := below_step hb hb2; have S2 := B2.step hb2; have Z2 := X2.step hb2; have Q2 := P2.step hb2; have y0 := S2.c0; have y1 := S2.c1)
      | (go_at_call 44; refine (set_gathered HD.out D A n c ps _ Bs hBc hBl Q2 HPR.out).mono ?_; rw [HGD.out]; rintro e w3 ⟨A3, k3, c3, qs, rfl, hP3, hok3, hd3, hA3, hb3⟩; rw [HDD.out]; have HB3 := Lib.hid (And.intro hP3 (And.intro hok3 (And.intro hd3 (And.intro hA3 (below_step hB2 hb3))))); have S3 := S2.step hb3; have Z3 := Z2.step hb3; have z0 := S3.c0; have z1 := S3.c1; have d0 := Z3.c0; have d1 := Z3.c1; have e0 := Z3.f 0; have e1 := Z3.f 1; clear hP3 hok3 hd3 hA3 hb3))
  obtain ⟨hP3, hok3, hd3, hA3, hb3⟩ := HB3.out
  have hs2 := hB2.size
  have hl2 := S2.lt
  have hz2 := Z2.lt
  have X4 := Z3.put D' A3 k3 c3
  have hku := Z3.keepU (.int .i64 D') (.slice A3 k3 c3)
  have hok4 := fun p hp => (hok3 p hp).keep hku
  have hP4 := pieces_move hP3 hok4 hku.size (fun h0 g o hA => by
    obtain ⟨g', o', h1, h2⟩ := hA3 h0
    rw [hA] at h1
    cases h1
    exact put_other (by omega) _ _)
  have hb4 := hb3.trans (below_put (w := w3) (N := w.heap.size) (b := w.heap.size + 1) (Nat.le_succ _) (.int .i64 D') (.slice A3 k3 c3))
  rename_i hHeld
  clear hHeld hb3 hku
  generalize (w3.setCell ⟨w.heap.size + 1, 0, none⟩ (.int .i64 D')).setCell ⟨w.heap.size + 1, 1, none⟩ (.slice A3 k3 c3) = w4 at *
  have v0 := X4.c0
  have v1 := X4.c1
  go_wp2
  refine bodyPost_ret (v := .tuple #[setV D' A3 k3 c3, .int .i64 gd.1]) (by simp [results, Tryz.results11, go_sem, v0, v1]) rfl ?_
  refine ⟨A3, k3, c3, qs, by rw [HDD.out], hP4, hok4, hd3, (fun h => let ⟨g, o, h1, h2⟩ := hA3 h; ⟨g, o, h1, by omega⟩), hb4⟩
end Go.Proofs.YtkgnlloioaobiaaGreat
namespace Go.Proofs.YtkgnlloioaobiaaGreat
open Go.RowKit
def ValidD (n : Nat) (d : CD) : Prop := validC d.q d.M d.xs d.K = true ∧ d.xs.length = n
theorem nf_valid1 {q M : Int} {n : Nat} {xs : List Int} {K : Int} (hl : xs.length = n) (hq : KindOk q M) (hs : (nf q M n xs K).2.2.2.2 = 0) :
    validC (nf q M n xs K).1 (nf q M n xs K).2.1 (nf q M n xs K).2.2.1 (nf q M n xs K).2.2.2.1 = validB (nf q M n xs K).2.2.1 (nf q M n xs K).2.2.2.1 ∧ (nf q M n xs K).2.2.1.length = n := by
  rcases nf_case (K := K) hl hq with ⟨s, hs'', h, hh⟩ | ⟨g, _, hg, h, _, _⟩ | ⟨D, _, hD, h, _, _, _, _⟩ | ⟨h, hq2, h0, hM, hne, e, _, _, _⟩
  · rw [h] at hs; exfalso; rcases hs'' with rfl | rfl <;> cases hs
  · rw [h]; unfold validC; simp [quoL]
  · rw [h]; unfold validC; simp [quoL]
  · rw [e]
    rcases hq with h1 | h1 | ⟨_, h1, h2⟩
    · rw [hq2] at h1; cases h1
    · rw [hq2] at h1; cases h1
    · have hM' := Int.ediv_mul_cancel hM
      have m3 := Int.ediv_le_self (h : Int) (show 0 ≤ M by omega)
      have hm : 1 ≤ M / (h : Int) := by
        rcases Int.lt_or_le (M / (h : Int)) 1 with hlt | hge
        · have m4 := Int.ediv_nonneg (show 0 ≤ M by omega) (show (0 : Int) ≤ h by omega)
          have : M / (h : Int) = 0 := by omega
          rw [this] at hM'; omega
        · exact hge
      refine ⟨?_, by simp [remL]⟩
      unfold validC
      simp; omega
theorem settle_all {P : CD → Prop} (hP : ∀ d : CD, P d → P ⟨1, 0, d.xs, d.K⟩) {p out : List CD} (hn : ∀ d ∈ p, P d) (h : settleD p = some out) : ∀ d ∈ out, P d := by
  have hges : ∀ d ∈ gesD p, P d := fun d hd => hn d ((kind_ge_sub p).subset (comp_mem hd))
  have htight : ∀ d ∈ tightD (gesD p), P d := fun d hd => by
    unfold tightD at hd
    obtain ⟨x, hx, hd⟩ := List.mem_flatMap.1 hd
    unfold tightOne at hd
    split at hd
    · split at hd
      · rw [List.mem_singleton] at hd
        subst hd
        exact hP x (hges x hx)
      · cases hd
    · cases hd
  have heqs : ∀ d ∈ eqsD p, P d := fun d hd => by
    have hd := comp_mem hd
    split at hd
    · have := (sortL_perm leD _).mem_iff.1 hd
      rcases List.mem_append.1 this with h | h
      · exact hn d ((kind_eq_sub p).subset h)
      · exact htight d h
    · exact hn d ((kind_eq_sub p).subset hd)
  unfold settleD at h
  split at h
  · cases h
  · split at h
    · cases h
    · split at h
      · cases h
      · cases h
        intro d hd
        rcases List.mem_append.1 hd with hd | hd
        · rcases List.mem_append.1 hd with hd | hd
          · exact heqs d hd
          · have hr : d ∈ restD (gesD p) := by
              unfold impRest at hd
              split at hd
              · exact hd
              · exact (List.mem_filter.1 hd).1
            exact hges d (List.mem_filter.1 hr).1
        · have := comp_mem hd
          unfold kindDv at this
          exact hn d ((List.dropWhile_sublist _).subset ((List.dropWhile_sublist _).subset this))
theorem piece_valid {n : Nat} {ds : List CD} (hq : ∀ d ∈ ds, KindOk d.q d.M ∧ d.xs.length = n) : (∀ d ∈ (pieceD n ds).1, ValidD n d) ∧ (pieceD n ds).1.length ≤ 96 := by
  unfold pieceD
  split
  · exact ⟨(fun d hd => nomatch hd), by simp⟩
  · split
    · exact ⟨(fun d hd => nomatch hd), by simp⟩
    · rename_i out hout
      split
      · exact ⟨(fun d hd => nomatch hd), by simp⟩
      · rename_i hb
        have hf : normFits n ds = true := by
          cases h : normFits n ds
          · exact absurd (.inl h) hb
          · rfl
        refine ⟨settle_all (P := ValidD n) (fun d hd => ⟨?_, hd.2⟩) (fun d hd => ?_) hout, ?_⟩
        · have := (validC_kind hd.1).1
          unfold validC
          rw [this]
          rfl
        · have hd := (sortL_perm leD _).mem_iff.1 hd
          have hfd := List.all_eq_true.1 hf d hd
          unfold normOut at hd
          obtain ⟨x, hx, hd⟩ := List.mem_flatMap.1 hd
          unfold openD at hd
          split at hd
          · rename_i h0
            rw [List.mem_singleton] at hd
            subst hd
            have := nf_valid1 (hq x hx).2 (hq x hx).1 h0
            exact ⟨this.1.trans hfd, this.2⟩
          · cases hd
        · rcases Nat.lt_or_ge 96 out.length with h1 | h1
          · exact absurd (.inr h1) hb
          · exact h1
end Go.Proofs.YtkgnlloioaobiaaGreat
namespace Go.Proofs.YtkgnlloioaobiaaGreat
open Go.RowKit
def PieceV (n : Nat) (w : World) (p : PEl) : Prop := PieceOk n w p ∧ (∀ d ∈ p.dat, ValidD n d) ∧ p.els.length ≤ 96
theorem PieceV.keep {n : Nat} {w w' : World} {p : PEl} (h : PieceV n w p) (hk : KeepU w w') : PieceV n w' p := ⟨h.1.keep hk, h.2⟩
theorem PieceV.step {n : Nat} {w w' : World} {p : PEl} (h : PieceV n w p) (hb : Below w.heap.size w w') : PieceV n w' p := h.keep (.of_below hb)
theorem PieceV.pre {n : Nat} {w : World} {p : PEl} (h : PieceV n w p) : ∀ e ∈ p.els, PreB n e := fun e he => by
  obtain ⟨hv, hl⟩ := h.2.1 e.d (List.mem_map.2 ⟨e, he, rfl⟩)
  obtain ⟨_, hK, hx⟩ := validB_true.1 (validC_kind hv).1
  have hK := fitsB_true.1 hK
  exact ⟨(h.1.2.1 e he).2.1, validC_ok hv, by have : e.d.K = e.K := rfl; omega, fun x hxm => by have := fitsB_true.1 (hx x hxm); omega⟩
theorem PieceV.take {n : Nat} {w : World} {A : Option Addr} {m c : Nat} {els : List CEl} (h : PieceV n w ⟨A, m, c, els⟩) {i : Nat} (hi : i ≤ m) (c' : Nat) (hc : A = none → c' = 0) (hi' : i ≤ c') : PieceV n w ⟨A, i, c', els.take i⟩ := by
  obtain ⟨⟨h1, h2, h3, h4⟩, h5, h6⟩ := h
  have hs := CV.sub (show CV 0 0 w A m els from h1) (i := 0) (k := i) (by omega) (A' := A) (fun _ g o hA => by rw [hA]; simp)
  rw [List.drop_zero] at hs
  refine ⟨⟨hs, fun e he => h2 e (List.mem_of_mem_take he), ?_, ⟨hc, h4.1.2⟩, hi'⟩, fun d hd => ?_, ?_⟩
  · have : m ≤ 1000 := h3
    show i ≤ 1000
    omega
  · obtain ⟨e, he, rfl⟩ := List.mem_map.1 hd
    exact h5 _ (List.mem_map.2 ⟨e, List.mem_of_mem_take he, rfl⟩)
  · have : els.length ≤ 96 := h6
    show (els.take i).length ≤ 96
    rw [List.length_take]
    omega
theorem row_pieces {n : Nat} {w : World} {g : Nat} {ps : List PEl} (hg : w.heap[g]? = some (.cells (ps.map PEl.v).toArray 34 (0, 0))) (hok : ∀ p ∈ ps, PieceOk n w p) (hl : ps.length ≤ 1000) : PiecesAt w (some ⟨g, 0, none⟩) ps.length ps := by
  refine ⟨rfl, by omega, fun _ => ⟨g, 0, rfl, (Array.getElem?_eq_some_iff.1 hg).1, fun j p hp => ?_⟩, fun p hp => (hok p hp).1.conds⟩
  rw [Nat.zero_add, cell_of_row w g j _ _ (0, 0) hg]
  simp [hp, PEl.v]
theorem joined {n : Nat} {w : World} {g : Nat} {ps : List PEl} (m cm : Nat) (hm : m = ps.length) (hg : w.heap[g]? = some (.cells (ps.map PEl.v).toArray 34 (0, 0))) (hok : ∀ p ∈ ps, PieceV n w p) (hl : ps.length ≤ 3) :
    Calls Tryz.prog 52 #[.slice (some ⟨g, 0, none⟩) m cm] w fun e w' => ∃ A k c, e = .returned (.slice A k c) ∧ CondsAt w' A k (ps.flatMap PEl.els) ∧ k ≤ 1000 ∧ Below w.heap.size w w' := by
  subst hm
  have hlen : (ps.flatMap PEl.els).length ≤ 288 := by
    have key : ∀ l : List PEl, (∀ p ∈ l, p.els.length ≤ 96) → (l.flatMap PEl.els).length ≤ l.length * 96 := by
      intro l
      induction l with
      | nil => intro _; simp
      | cons a l ih =>
        intro h
        have h1 := h a (List.mem_cons_self ..)
        have h2 := ih fun p hp => h p (List.mem_cons_of_mem _ hp)
        simp only [List.flatMap_cons, List.length_append, List.length_cons]
        omega
    have := key ps fun p hp => (hok p hp).2.2
    omega
  refine (conds_concat (N0 := 0) w (row_pieces hg (fun p hp => (hok p hp).1) (by omega)) (fun p hp => (hok p hp).1.1.rows) (fun p hp => (hok p hp).1.2.2.2.1) (by omega) (by omega)).mono ?_
  rintro e w' ⟨A, c, rfl, hL, hb⟩
  exact ⟨A, _, c, rfl, hL.conds.2, by omega, hb⟩
theorem one_piece {n : Nat} {w : World} {e : CEl} {g : Nat} (hg : w.heap[g]? = some (.cells (ccells [e]).toArray 56 (0, 0))) (hi : IntsAt w e.A e.n e.xs) (hr : RowOk 0 w e.A e.n) (hn : e.n = n) (hv : ValidD n e.d) : PieceV n w ⟨some ⟨g, 0, none⟩, 1, 1, [e]⟩ := by
  obtain ⟨_, hK, hx⟩ := validB_true.1 (validC_kind hv.1).1
  have hK := fitsB_true.1 hK
  have hk : e.d.K = e.K := rfl
  have hM : e.d.M = e.M := rfl
  have hq : e.d.q = e.q := rfl
  refine ⟨⟨?_, fun x hx' => ?_, by show (1 : Nat) ≤ 1000; omega, ⟨(fun h => nomatch h), fun ad h => by cases h; rfl⟩, Nat.le_refl _⟩, fun d hd => ?_, by simp⟩
  · refine CV.of_cl (c := 1) ⟨⟨by simp [ccells_len], .inr ⟨g, 1, _, rfl, Nat.zero_le _, hg, by simp, by decide, by simp [ccells_len], by simp [ccells, CEl.cells]⟩⟩, by simp, fun x hx' => ?_, fun x hx' => ?_⟩
    · rw [List.mem_singleton.1 hx']; exact hi
    · rw [List.mem_singleton.1 hx']; exact hr
  · rw [List.mem_singleton.1 hx']
    refine ⟨?_, hn, ?_, by omega, fun y hy => by have := fitsB_true.1 (hx y hy); omega⟩
    · rcases (validC_kind hv.1).2 with ⟨h, _⟩ | ⟨h, _⟩ | ⟨h, _⟩
      · exact .inl (hq ▸ h)
      · exact .inr (.inl (hq ▸ h))
      · exact .inr (.inr (hq ▸ h))
    · rcases (validC_kind hv.1).2 with ⟨_, h⟩ | ⟨_, h⟩ | ⟨_, h, h'⟩ <;> omega
  · have : d = e.d := by simpa [PEl.dat] using hd
    rw [this]
    exact hv
end Go.Proofs.YtkgnlloioaobiaaGreat
namespace Go.Proofs.YtkgnlloioaobiaaGreat
open Go.RowKit
section
variable {α : Type} (f : List (List CD) → α → Int × List (List CD))
def stick (r : Int × List (List CD)) (x : α) : Int × List (List CD) := if r.1 ≠ 0 then r else f r.2 x
def foldE (l : List α) (us : List (List CD)) : Int × List (List CD) := l.foldl (stick f) (0, us)
variable {f}
theorem stick_stuck {r : Int × List (List CD)} (h : r.1 ≠ 0) : ∀ l : List α, l.foldl (stick f) r = r
  | [] => rfl
  | d :: l => by
    rw [List.foldl_cons, show stick f r d = r from if_pos h]
    exact stick_stuck h l
theorem fold_stuck {l l' : List α} {us : List (List CD)} (h : (foldE f l us).1 ≠ 0) : foldE f (l ++ l') us = foldE f l us := by
  unfold foldE at h ⊢
  rw [List.foldl_append]
  exact stick_stuck h l'
theorem fold_next {l : List α} {us vs : List (List CD)} (h : foldE f l us = (0, vs)) (x : α) : foldE f (l ++ [x]) us = f vs x := by
  unfold foldE at h ⊢
  rw [List.foldl_append, h]
  show stick f (0, vs) x = _
  unfold stick
  exact if_neg (show ¬ ((0 : Int) ≠ 0) by decide)
theorem fold_take {l : List α} {us vs : List (List CD)} {i : Nat} {x : α} (hx : l[i]? = some x) (h : foldE f (l.take i) us = (0, vs)) : foldE f (l.take (i + 1)) us = f vs x := by
  rw [List.take_add_one, hx]
  exact fold_next h x
theorem fold_fail {l : List α} {us : List (List CD)} {i : Nat} {r : Int × List (List CD)} (h : foldE f (l.take i) us = r) (h0 : r.1 ≠ 0) : foldE f l us = r := by
  have := fold_stuck (f := f) (l := l.take i) (l' := l.drop i) (us := us) (by rw [h]; exact h0)
  rw [List.take_append_drop, h] at this
  exact this
theorem fold_good {P : List (List CD) → Prop} {l : List α} {us : List (List CD)} (h0 : P us) (hf : ∀ x ∈ l, ∀ us, P us → P (f us x).2) : P (foldE f l us).2 := by
  unfold foldE
  have key : ∀ (l : List α) (r : Int × List (List CD)), (∀ x ∈ l, ∀ us, P us → P (f us x).2) → P r.2 → P (l.foldl (stick f) r).2 := by
    intro l
    induction l with
    | nil => intro r _ h; exact h
    | cons a l ih =>
      intro r hl h
      rw [List.foldl_cons]
      refine ih _ (fun x hx => hl x (List.mem_cons_of_mem _ hx)) ?_
      unfold stick
      split
      · exact h
      · exact hl a (List.mem_cons_self ..) _ h
  exact key l (0, us) hf h0
end
def GoodU (n : Nat) (us : List (List CD)) : Prop := (∀ u ∈ us, (∀ d ∈ u, ValidD n d) ∧ u.length ≤ 96) ∧ us.length ≤ 400
def KindsOk (n : Nat) (ds : List CD) : Prop := ∀ d ∈ ds, KindOk d.q d.M ∧ d.xs.length = n
theorem ValidD.kind {n : Nat} {d : CD} (h : ValidD n d) : KindOk d.q d.M ∧ d.xs.length = n := ⟨validC_ok h.1, h.2⟩
theorem keep_good {n : Nat} {us : List (List CD)} {d : List CD} (h : GoodU n us) (hd : (∀ x ∈ d, ValidD n x) ∧ d.length ≤ 96) : GoodU n (keepD us d).2 := by
  unfold keepD
  split
  · exact h
  · split
    · exact h
    · rename_i h1 h2
      refine ⟨fun u hu => ?_, by rw [List.length_append]; have := h.2; simp; omega⟩
      rcases List.mem_append.1 hu with hu | hu
      · exact h.1 u hu
      · rw [List.mem_singleton.1 hu]; exact hd
theorem add_good {n : Nat} {us : List (List CD)} {ds : List CD} (h : GoodU n us) (hd : KindsOk n ds) : GoodU n (addD n us ds).2 := by
  unfold addD
  split
  · exact h
  · exact keep_good h (piece_valid hd)
theorem gather_fold (n : Nat) (l : List (List CD)) : gatherD n l = foldE (addD n) l [] := rfl
theorem gather_good {n : Nat} {l : List (List CD)} (hl : ∀ ds ∈ l, KindsOk n ds) : GoodU n (gatherD n l).2 := by
  rw [gather_fold]
  exact fold_good (P := GoodU n) ⟨(fun u h => nomatch h), by simp⟩ fun x hx us h => add_good h (hl x hx)
def cutOne (n : Nat) (p c : List CD) (us : List (List CD)) (i : Nat) : Int × List (List CD) :=
  match c[i]? with
  | some d => if negE d.q d.M n d.xs d.K ≠ 0 then (negE d.q d.M n d.xs d.K, us) else foldE (fun us z => addD n us (p ++ (c.take i ++ [z]))) (negL d.q d.M n d.xs d.K) us
  | none => (0, us)
def withOne (n : Nat) (c : List CD) (us : List (List CD)) (p : List CD) : Int × List (List CD) :=
  if (pieceD n (p ++ c)).2.2 ≠ 0 then ((pieceD n (p ++ c)).2.2, us) else if (pieceD n (p ++ c)).2.1 = true then keepD us p else foldE (cutOne n p c) (List.range c.length) us
def withoutD (n : Nat) (ps : List (List CD)) (c : List CD) : Int × List (List CD) := foldE (withOne n c) ps []
def minusD (n : Nat) (ps qs : List (List CD)) : Int × List (List CD) :=
  if (gatherD n ps).1 ≠ 0 then ((gatherD n ps).1, []) else if (gatherD n qs).1 ≠ 0 then ((gatherD n qs).1, []) else foldE (withoutD n) (gatherD n qs).2 (gatherD n ps).2
def awA : List (List CD) := [[⟨0, 0, [1], 0⟩, ⟨0, 0, [-1], 5⟩]]
def awB : List (List CD) := [[⟨0, 0, [1], -2⟩, ⟨0, 0, [-1], 3⟩]]
theorem aw_minus : minusD 1 awA awB = (0, [[⟨0, 0, [-1], 5⟩, ⟨0, 0, [1], -4⟩], [⟨0, 0, [-1], 1⟩, ⟨0, 0, [1], 0⟩]]) := by kernel_rfl
theorem aw_three : gatherD 1 [[⟨0, 0, [1], -3⟩, ⟨0, 0, [-1], 3⟩]] = (0, [[⟨1, 0, [1], -3⟩]]) := by kernel_rfl
end Go.Proofs.YtkgnlloioaobiaaGreat
namespace Go.Proofs.YtkgnlloioaobiaaGreat
open Go.RowKit
theorem out_valid0 {n : Nat} {ds : List CD} (hn : n ≤ 12) (h : ∀ d ∈ ds, OppOk n d) (hb : ds.any (negBad n) = false) : ∀ d ∈ negOut n ds, validC d.q d.M d.xs d.K = true ∧ d.xs.length = n := by
  intro d hd
  obtain ⟨d0, hd0, hd⟩ := List.mem_flatMap.1 hd
  obtain ⟨h1, h2, h3, h4⟩ := h d0 hd0
  have hbad : negBad n d0 = false := by
    rw [List.any_eq_false] at hb
    simpa using hb d0 hd0
  unfold negOne at hd
  split at hd
  · rename_i hs
    rw [List.mem_singleton.1 hd]
    have hs' : (nf d0.q d0.M n d0.xs d0.K).2.2.2.2 = 0 := hs
    have hi := (nf_idem h4 h1 hs').1
    have hvb : validB (nf d0.q d0.M n d0.xs d0.K).2.2.1 (nf d0.q d0.M n d0.xs d0.K).2.2.2.1 = true := by
      unfold negBad at hbad
      rw [show decide ((nfD n d0).2.2.2.2 = 0) = true by simpa using hs, Bool.true_and] at hbad
      simpa [nfD] using hbad
    refine ⟨?_, hi⟩
    show validC (nf d0.q d0.M n d0.xs d0.K).1 (nf d0.q d0.M n d0.xs d0.K).2.1 (nf d0.q d0.M n d0.xs d0.K).2.2.1 (nf d0.q d0.M n d0.xs d0.K).2.2.2.1 = true
    unfold validC
    rw [hvb, Bool.true_and]
    rcases nf_case (K := d0.K) h4 h1 with ⟨s, hs'', h, hh⟩ | ⟨g, _, hg, h, _, _⟩ | ⟨D, _, hD, h, _, _, _, _⟩ | ⟨h, hq, h0, hM, hne, e, _, _, _⟩
    · rw [h] at hs'; exfalso; rcases hs'' with rfl | rfl <;> cases hs'
    · rw [h]; rfl
    · rw [h]; rfl
    · rw [e]
      rcases h1 with h1 | h1 | ⟨_, h1, h2⟩
      · rw [hq] at h1; cases h1
      · rw [hq] at h1; cases h1
      · have hM' := Int.ediv_mul_cancel hM
        have m3 := Int.ediv_le_self (h : Int) (show 0 ≤ d0.M by omega)
        have hm : 1 ≤ d0.M / (h : Int) := by
          rcases Int.lt_or_le (d0.M / (h : Int)) 1 with hlt | hge
          · have m4 := Int.ediv_nonneg (show 0 ≤ d0.M by omega) (show (0 : Int) ≤ h by omega)
            have : d0.M / (h : Int) = 0 := by omega
            rw [this] at hM'; omega
          · exact hge
        simp; omega
  · split at hd
    · rw [List.mem_singleton.1 hd]
      refine ⟨?_, zeros_len n⟩
      show validC 0 0 (zeros n) 0 = true
      unfold validC
      rw [validB_true.2 ⟨by rw [zeros_len]; exact hn, by decide, fun x hx => by rw [List.eq_of_mem_replicate hx]; decide⟩]
      rfl
    · cases hd
theorem neg_valid {q M : Int} {n : Nat} {xs : List Int} {K : Int} (hn : n ≤ 12) (hv : validC q M xs K = true) (hl : xs.length = n) : ∀ d ∈ negL q M n xs K, ValidD n d := fun d hd => by
  unfold negL at hd
  rw [if_pos hv] at hd
  split at hd
  · cases hd
  · rename_i hf
    unfold negFull at hf
    have hb : (oppL q M n xs K).any (negBad n) = false := by
      cases h : (oppL q M n xs K).any (negBad n)
      · rfl
      · rw [h] at hf; exact absurd rfl hf
    exact out_valid0 hn (opp_ok hv).1 hb d hd
end Go.Proofs.YtkgnlloioaobiaaGreat
namespace Go.Proofs.YtkgnlloioaobiaaGreat
open Go.RowKit Go.Shelf
theorem gather_fail {n : Nat} {w w' : World} {D : Int} {r : Int × List (List CD)} {er : Int} (hr : r.1 = er) (h0 : er ≠ 0) (hb : Below w.heap.size w w') : GatherRet n w (.returned (.tuple #[setV 0 none 0 0, .int .i64 er])) w' D r := by
  subst hr
  refine ⟨none, 0, 0, [], by rw [if_pos h0], ⟨rfl, by omega, fun h => absurd h (by omega), (fun p h => nomatch h)⟩, (fun p h => nomatch h), by rw [if_pos h0]; rfl, fun h => absurd h (by omega), hb⟩
theorem wd_fail {n : Nat} {cd : List CD} {l : List (List CD)} {wd r : Int × List (List CD)} {i : Nat} {er : Int} (hw : withoutD n l cd = wd) (h : foldE (withOne n cd) (l.take (i + 1)) [] = r) (hr : r.1 = er) (h0 : er ≠ 0) : wd.1 = er := by
  rw [← hw]
  unfold withoutD
  rw [fold_fail h (by rw [hr]; exact h0), hr]
set_option maxHeartbeats 8000000 in
theorem set_without {n : Nat} (hn : n ≤ 12) (D : Int) (A : Option Addr) (k c : Nat) (ps : List PEl) (B : Option Addr) (m c' : Nat) (els : List CEl) (w : World) (P0 : PiecesAt w A k ps) (hk : k ≤ 400) (hv : ∀ p ∈ ps, PieceV n w p) (hq : PieceV n w ⟨B, m, c', els⟩) :
    Calls Tryz.prog 54 #[setV D A k c, .slice B m c'] w fun e w' => GatherRet n w e w' D (withoutD n (ps.map PEl.dat) (els.map CEl.d)) := by
  have HV := Lib.hid hv
  have HQ := Lib.hid hq
  have HLP := Lib.hid P0.len
  obtain ⟨cd, hcd⟩ : ∃ cd, els.map CEl.d = cd := ⟨_, rfl⟩
  rw [hcd]
  have HCD := Lib.hid hcd
  obtain ⟨wd, hwd⟩ : ∃ wd, withoutD n (ps.map PEl.dat) cd = wd := ⟨_, rfl⟩
  rw [hwd]
  have HWD := Lib.hid hwd
  have B0 := (below_alloc w (.cells #[.int .i64 D, .slice A k c] 24))
  have B1 := SetBox.new w D A k c
  have B2 := B1.alloc (.cells #[.int .i64 0, .slice none 0 0] 24)
  have X2 := SetBox.new (w.alloc (.cells #[.int .i64 D, .slice A k c] 24)) 0 none 0 0
  rw [World.size_alloc] at X2
  have hb := below_step B0 (below_alloc _ (.cells #[.int .i64 0, .slice none 0 0] 24))
  have hs0 : ((w.alloc (.cells #[.int .i64 D, .slice A k c] 24)).alloc (.cells #[.int .i64 0, .slice none 0 0] 24)).heap.size = w.heap.size + 2 := by simp
  clear hv hq hcd hwd B0 B1
  go_enter Tryz.func54, Tryz.ntmps54
  go_wp2
  go_step3
  go_wp2_with (go_at_call 73; refine (union_new n _).mono ?_; rintro e w1 ⟨⟨b, r, rfl, U1⟩, hb1⟩; rw [hs0] at U1; replace hb := below_step hb hb1; replace B2 := B2.step hb1; replace X2 := X2.step hb1; have x0 := B2.c0; have x1 := B2.c1)
  go_step3
  go_wp2
  go_loopg [24] k (fun g v wr => ∃ i : Nat, i + g = k ∧ v = .int .i64 i ∧ (∃ u us, UN n (w.heap.size + 2) wr b u r us ∧ foldE (withOne n cd) ((ps.map PEl.dat).take i) [] = (0, us.map PEl.dat)) ∧ (SetBox wr w.heap.size D A k c ∧ SetBox wr (w.heap.size + 1) 0 none 0 0) ∧ Below w.heap.size w wr)
  case atStart => exact ⟨0, by omega, rfl, ⟨_, [], U1, rfl⟩, ⟨B2, X2⟩, hb⟩
  case round =>
    clear B2 X2 hb x0 x1 U1 hb1
    obtain ⟨i, hig, rfl, ⟨u, us, hU, hF⟩, ⟨B2, X2⟩, hbr⟩ := hrel
    have HF := Lib.hid hF
    clear hF
    cases gk with
    | succ g =>
      have hlt : i < k := by omega
      obtain ⟨b1, off1, p, hA, hblt, hpj, hmem, hcell, hCp⟩ := (P0.step hbr).at hlt
      have hVp := (HV.out p hmem).step hbr
      have HT := Lib.hid (fold_take (f := withOne n cd) (us := []) (i := i) (x := p.dat) (l := ps.map PEl.dat) (by rw [List.getElem?_map, hpj]; rfl) HF.out)
      have hVq := HQ.out.step hbr
      have HMP := Lib.hid hmem
      obtain ⟨q1, hq1⟩ : ∃ q1, pieceD n (p.dat ++ cd) = q1 := ⟨_, rfl⟩
      have HP1 := Lib.hid hq1
      obtain ⟨l1, vd, er⟩ := q1
      obtain ⟨pA, pn, pc, pels⟩ := p
      simp only at hcell
      have b5 := below_alloc wr (.cells #[.slice pA pn pc, .slice B m c'] 34)
      have hG := heap_alloc_new wr (.cells #[.slice pA pn pc, .slice B m c'] 34)
      have HJ := Lib.hid (joined (n := n) (ps := [⟨pA, pn, pc, pels⟩, ⟨B, m, c', els⟩]) 2 2 rfl hG (fun x hx => by
        rcases List.mem_cons.1 hx with rfl | hx
        · exact hVp.step b5
        · rw [List.mem_singleton.1 hx]; exact hVq.step b5) (by simp))
      have HPR := Lib.hid (fun W k9 A9 c9 (hC : CondsAt W A9 k9 ([(⟨pA, pn, pc, pels⟩ : PEl), ⟨B, m, c', els⟩].flatMap PEl.els)) (h9 : k9 ≤ 1000) => wide_piece (n := n) (c := c9) W hC (fun e he => by
        simp only [List.flatMap_cons, List.flatMap_nil, List.append_nil] at he
        rcases List.mem_append.1 he with he | he
        · exact hVp.pre e he
        · exact hVq.pre e he) h9)
      have HDD := Lib.hid (show pieceD n (([(⟨pA, pn, pc, pels⟩ : PEl), ⟨B, m, c', els⟩].flatMap PEl.els).map CEl.d) = (l1, vd, er) by
        rw [← hq1, ← HCD.out]
        simp [PEl.dat])
      have HU := Lib.hid hU
      have HVP := Lib.hid hVp
      have HVQ := Lib.hid hVq
      have hqq : (i : Int) < k := by omega
      subst hA
      clear hq1 hCp hmem hpj hVp hVq hU b5 hG
      by_cases h0 : er = 0
      · subst h0
        cases vd
        · have HWR := Lib.hid (show w.heap.size + 2 ≤ wr.heap.size from X2.lt)
          obtain ⟨pd, hpd⟩ : ∃ pd, (⟨pA, pn, pc, pels⟩ : PEl).dat = pd := ⟨_, rfl⟩
          have HPD := Lib.hid hpd
          have HT2 := Lib.hid (show foldE (withOne n cd) ((ps.map PEl.dat).take (i + 1)) [] = foldE (cutOne n pd cd) (List.range cd.length) (us.map PEl.dat) by
            rw [HT.out]
            unfold withOne
            rw [HP1.out, if_neg (show ¬ ((0 : Int) ≠ 0) by decide), if_neg (by simp), hpd])
          clear hpd
          go_wp2_with (first
            | (go_at_call 52; refine HJ.out.mono ?_; rintro e w3 ⟨A3, k3, c3, rfl, hC3, hk3, hb3⟩; have hb4 := (below_alloc wr (.cells #[.slice pA pn pc, .slice B m c'] 34)).trans (hb3.mono (below_alloc wr (.cells #[.slice pA pn pc, .slice B m c'] 34)).size))
            | (go_at_call 71; refine (HPR.out w3 k3 A3 c3 hC3 hk3).mono ?_; rw [HDD.out]; rintro e w4 ⟨A4, k4, c4, l4, rfl, hL4, hd4, hn4, hb5⟩; have hb6 := below_step hb4 hb5; have U4 := HU.out.step hb6; have X4 := X2.step hb6; have B4 := B2.step hb6; have hbw := hbr.trans (hb6.mono hbr.size); clear hb4 hb5 hb6 hb3 hC3 hL4 hd4 hn4))
          have HQL := Lib.hid (show els.length = m from HQ.out.1.1.conds.len)
          have hm9 : m ≤ 1000 := HQ.out.1.2.2.1
          go_loopg [51] m (fun g2 v wx => ∃ j : Nat, j + g2 = m ∧ v = .int .i64 j ∧ (∃ u us2, UN n (w.heap.size + 2) wx b u r us2 ∧ foldE (cutOne n pd cd) ((List.range cd.length).take j) (us.map PEl.dat) = (0, us2.map PEl.dat)) ∧ (SetBox wx w.heap.size D (some ⟨b1, off1, none⟩) k c ∧ SetBox wx (w.heap.size + 1) 0 none 0 0) ∧ Below w.heap.size w wx)
          case atStart => exact ⟨0, by omega, rfl, ⟨_, us, U4, rfl⟩, ⟨B4, X4⟩, hbw⟩
          case round =>
            clear U4 X4 B4 hbw
            obtain ⟨j, hjg, rfl, ⟨u2, us2, hU2, hF2⟩, ⟨B6, X6⟩, hbx⟩ := hrel
            have HF2 := Lib.hid hF2
            clear hF2
            cases gk with
            | zero =>
              obtain rfl : j = m := by omega
              have hge : ¬ ((j : Int) < j) := by omega
              have HE2 := Lib.hid (show foldE (withOne n cd) ((ps.map PEl.dat).take (i + 1)) [] = (0, us2.map PEl.dat) by
                rw [HT2.out, ← HF2.out, List.take_of_length_le (by rw [List.length_range, ← HCD.out, List.length_map, HQL.out]; exact Nat.le_refl _)])
              go_wp2
              go_roundg g
              case measure => omega
              case rel => exact ⟨i + 1, by omega, by go_num, ⟨u2, us2, hU2, HE2.out⟩, ⟨B6, X6⟩, hbx⟩
            | succ g2 =>
              have hlt2 : j < m := by omega
              have hVq := HQ.out.step hbx
              obtain ⟨b2, off2, e, hB, hblt2, hej, hmem, hcs, hin⟩ := hVq.1.1.conds.at hlt2
              obtain ⟨x0, x1, x2, x3⟩ := hcs
              have hen := (hVq.1.2.1 e hmem).2.1
              have HVE := Lib.hid (hVq.2.1 e.d (List.mem_map.2 ⟨e, hmem, rfl⟩))
              have HEJ := Lib.hid hej
              obtain ⟨eq, eM, eA, en, ec, eK, exs⟩ := e
              simp only at x0 x1 x2 x3 hin hen
              subst hen
              have hq2 : (j : Int) < m := by omega
              have b5 := below_alloc wr (.cells #[.int .i64 eq, .int .i64 eM, .slice eA en ec, .int .i64 eK] 56)
              have y1 := hin.step b5
              have X1 := CBox.new wr eq eM eA en ec eK
              obtain ⟨er, her⟩ : ∃ er, negE eq eM en exs eK = er := ⟨_, rfl⟩
              have HER := Lib.hid her
              have HT3 := Lib.hid (fold_take (f := cutOne en pd cd) (l := List.range cd.length) (i := j) (x := j) (List.getElem?_range (by rw [← HCD.out, List.length_map, HQL.out]; exact hlt2)) HF2.out)
              have HCJ := Lib.hid (show cd[j]? = some ⟨eq, eM, exs, eK⟩ by rw [← HCD.out, List.getElem?_map, hej]; rfl)
              have hbx1 := hbx.trans (b5.mono hbx.size)
              subst hB
              clear hej hmem hVq hin her
              by_cases h0 : er = 0
              · subst h0
                obtain ⟨nl, hnl⟩ : ∃ nl, negL eq eM en exs eK = nl := ⟨_, rfl⟩
                have HNL := Lib.hid hnl
                have HT4 := Lib.hid (show foldE (cutOne en pd cd) ((List.range cd.length).take (j + 1)) (us.map PEl.dat) = foldE (fun us z => addD en us (pd ++ (cd.take j ++ [z]))) nl (us2.map PEl.dat) by
                  rw [HT3.out]
                  unfold cutOne
                  rw [HCJ.out]
                  simp only [HER.out, HNL.out]
                  rw [if_neg (show ¬ ((0 : Int) ≠ 0) by decide)])
                clear hnl
                go_wp2_with (go_at_call 80; refine (cond_neg eq eM eA en ec eK exs _ y1).mono ?_; rw [HER.out, HNL.out]; rintro e w4 ⟨ul, els3, rfl, hL3, hd3, hn3, hbn⟩; have hb9 := hbx1.trans (hbn.mono hbx1.size); have X4 := (X6.step b5).step hbn; have B4 := (B6.step b5).step hbn; have U4 := (hU2.step b5).step hbn; obtain ⟨lA, lc, rfl⟩ := hL3.slice; have HL3 := Lib.hid (And.intro hL3 (And.intro hd3 hn3)); have hfew3 := hL3.few; clear hL3 hd3 hn3)
                go_loopg [67] els3.length (fun g3 v wz => ∃ z : Nat, z + g3 = els3.length ∧ v = .int .i64 z ∧ (∃ u us3, UN en (w.heap.size + 2) wz b u r us3 ∧ foldE (fun us z => addD en us (pd ++ (cd.take j ++ [z]))) (nl.take z) (us2.map PEl.dat) = (0, us3.map PEl.dat)) ∧ (SetBox wz w.heap.size D (some ⟨b1, off1, none⟩) k c ∧ SetBox wz (w.heap.size + 1) 0 none 0 0) ∧ KeepU w4 wz ∧ Below w.heap.size w wz)
                case atStart => exact ⟨0, by omega, rfl, ⟨_, us2, U4, rfl⟩, ⟨B4, X4⟩, KeepU.refl _, hb9⟩
                case round =>
                  clear U4 X4 B4
                  obtain ⟨z, hzg, rfl, ⟨u3, us3, hU3, hF3⟩, ⟨B8, X8⟩, hku, hbz⟩ := hrel
                  have HF3 := Lib.hid hF3
                  clear hF3
                  cases gk with
                  | zero =>
                    have hge : ¬ ((z : Int) < (els3.length : Nat)) := by omega
                    have HE3 := Lib.hid (show foldE (cutOne en pd cd) ((List.range cd.length).take (j + 1)) (us.map PEl.dat) = (0, us3.map PEl.dat) by
                      have h5 := HF3.out
                      rw [show nl.take z = nl from List.take_of_length_le (by rw [← HL3.out.2.1, List.length_map]; omega)] at h5
                      rw [HT4.out]
                      exact h5)
                    go_wp2
                    go_roundg g2
                    case measure => omega
                    case rel => exact ⟨j + 1, by omega, by go_num, ⟨u3, us3, hU3, HE3.out⟩, ⟨B8, X8⟩, hbz⟩
                  | succ g3 =>
                    have hlt3 : z < els3.length := by omega
                    have hCV := CV.keep ((CV.of_cl HL3.out.1).mono (Nat.zero_le _) (Nat.zero_le _)) hku
                    obtain ⟨b3, off3, f, hB3, hblt3, hej3, hmem3, hcs3, hin3⟩ := hCV.conds.at hlt3
                    obtain ⟨v0, v1, v2, v3⟩ := hcs3
                    have hro3 := hCV.rows f hmem3
                    have hne3 := HL3.out.2.2 f hmem3
                    have hnv : ValidD en f.d := neg_valid hn HVE.out.1 HVE.out.2 f.d (by show f.d ∈ negL eq eM en exs eK; rw [HNL.out, ← HL3.out.2.1]; exact List.mem_map.2 ⟨f, hmem3, rfl⟩)
                    have HT5 := Lib.hid (fold_take (f := fun us z => addD en us (pd ++ (cd.take j ++ [z]))) (l := nl) (i := z) (x := f.d) (by rw [← HL3.out.2.1, List.getElem?_map, hej3]; rfl) HF3.out)
                    have hq3 : (z : Int) < (els3.length : Nat) := by omega
                    have HFD := Lib.hid (And.intro hro3 (And.intro hne3 hnv))
                    obtain ⟨fq, fM, fA, fn, fc, fK, fxs⟩ := f
                    simp only at v0 v1 v2 v3 hin3
                    have X18 := CBox.new wr fq fM fA fn fc fK
                    have b18 := below_alloc wr (.cells #[.int .i64 fq, .int .i64 fM, .slice fA fn fc, .int .i64 fK] 56)
                    have hbz1 := hbz.trans (b18.mono hbz.size)
                    have HVP3 := Lib.hid ((HV.out _ HMP.out).step hbz1)
                    have HVQ3 := Lib.hid (PieceV.take (HQ.out.step hbz1) (Nat.le_of_lt hlt2) c' HQ.out.1.2.2.2.1.1 (Nat.le_trans (Nat.le_of_lt hlt2) HQ.out.1.2.2.2.2))
                    have hin4 := hin3.step b18
                    have U8 := hU3.step b18
                    have X9 := X8.step b18
                    have B9 := B8.step b18
                    have g0 := X18.c0
                    have g1 := X18.c1
                    have g2' := X18.c2
                    have g3' := X18.c3
                    subst hB3
                    clear hej3 hmem3 hin3 hro3 hne3 hnv hCV
                    have hj5 : (j : Int) ≤ c' := by have := HQ.out.1.2.2.2.2; simp only at this; omega
                    have hj6 : (m : Int) ≤ c' := by have := HQ.out.1.2.2.2.2; simp only at this; omega
                    have hj7 : (j : Int) ≤ m := by omega
                    go_wp2
                    have hs18 : (wr.alloc (.cells #[.int .i64 fq, .int .i64 fM, .slice fA fn fc, .int .i64 fK] 56)).heap.size = wr.heap.size + 1 := by simp
                    generalize wr.alloc (.cells #[.int .i64 fq, .int .i64 fM, .slice fA fn fc, .int .i64 fK] 56) = W0 at *
                    have hB1 := below_alloc W0 (.cells #[.int .i64 fq, .int .i64 fM, .slice fA fn fc, .int .i64 fK] 56)
                    have hB2 := below_alloc (W0.alloc (.cells #[.int .i64 fq, .int .i64 fM, .slice fA fn fc, .int .i64 fK] 56)) (.cells #[.slice pA pn pc, .slice (some ⟨b2, off2, none⟩) j c', .slice (some ⟨wr.heap.size + 1, 0, none⟩) 1 1] 34)
                    have hdr := (Below.refl ((W0.alloc (.cells #[.int .i64 fq, .int .i64 fM, .slice fA fn fc, .int .i64 fK] 56)).alloc (.cells #[.slice pA pn pc, .slice (some ⟨b2, off2, none⟩) j c', .slice (some ⟨wr.heap.size + 1, 0, none⟩) 1 1] 34)).heap.size ((W0.alloc (.cells #[.int .i64 fq, .int .i64 fM, .slice fA fn fc, .int .i64 fK] 56)).alloc (.cells #[.slice pA pn pc, .slice (some ⟨b2, off2, none⟩) j c', .slice (some ⟨wr.heap.size + 1, 0, none⟩) 1 1] 34))).drew
                    have hB12 := below_step (below_step hB1 hB2) hdr
                    have hG1 : (W0.alloc (.cells #[.int .i64 fq, .int .i64 fM, .slice fA fn fc, .int .i64 fK] 56)).heap[wr.heap.size + 1]? = some (.cells (ccells [⟨fq, fM, fA, fn, fc, fK, fxs⟩]).toArray 56 (0, 0)) := by
                      rw [← hs18]
                      exact heap_alloc_new W0 _
                    have hONE := ((one_piece hG1 (hin4.step hB1) ((HFD.out.1.step b18).step hB1) HFD.out.2.1 HFD.out.2.2).step hB2).step hdr
                    have HJ3 := Lib.hid (joined (n := en) (w := ((W0.alloc (.cells #[.int .i64 fq, .int .i64 fM, .slice fA fn fc, .int .i64 fK] 56)).alloc (.cells #[.slice pA pn pc, .slice (some ⟨b2, off2, none⟩) j c', .slice (some ⟨wr.heap.size + 1, 0, none⟩) 1 1] 34)).drew) (g := wr.heap.size + 2) (ps := [⟨pA, pn, pc, pels⟩, ⟨some ⟨b2, off2, none⟩, j, c', els.take j⟩, ⟨some ⟨wr.heap.size + 1, 0, none⟩, 1, 1, [⟨fq, fM, fA, fn, fc, fK, fxs⟩]⟩]) 3 3 rfl (by
                      have h5 := heap_alloc_new (W0.alloc (.cells #[.int .i64 fq, .int .i64 fM, .slice fA fn fc, .int .i64 fK] 56)) (.cells #[.slice pA pn pc, .slice (some ⟨b2, off2, none⟩) j c', .slice (some ⟨wr.heap.size + 1, 0, none⟩) 1 1] 34)
                      rw [World.size_alloc, hs18] at h5
                      exact (hdr.block _ (by simp [hs18])).trans h5) (fun x hx => by
                      rcases List.mem_cons.1 hx with rfl | hx
                      · exact HVP3.out.step hB12
                      · rcases List.mem_cons.1 hx with rfl | hx
                        · exact HVQ3.out.step hB12
                        · rw [List.mem_singleton.1 hx]; exact hONE) (by simp))
                    obtain ⟨aw, haw⟩ : ∃ aw, addD en (us3.map PEl.dat) (([(⟨pA, pn, pc, pels⟩ : PEl), ⟨some ⟨b2, off2, none⟩, j, c', els.take j⟩, ⟨some ⟨wr.heap.size + 1, 0, none⟩, 1, 1, [⟨fq, fM, fA, fn, fc, fK, fxs⟩]⟩].flatMap PEl.els).map CEl.d) = aw := ⟨_, rfl⟩
                    obtain ⟨er5, l5⟩ := aw
                    have HAW := Lib.hid haw
                    have HT6 := Lib.hid (show foldE (fun us z => addD en us (pd ++ (cd.take j ++ [z]))) (nl.take (z + 1)) (us2.map PEl.dat) = (er5, l5) by
                      rw [HT5.out, ← haw, ← HPD.out, ← HCD.out]
                      simp [PEl.dat, List.map_take])
                    have HPRE := Lib.hid (fun e (he : e ∈ [(⟨pA, pn, pc, pels⟩ : PEl), ⟨some ⟨b2, off2, none⟩, j, c', els.take j⟩, ⟨some ⟨wr.heap.size + 1, 0, none⟩, 1, 1, [⟨fq, fM, fA, fn, fc, fK, fxs⟩]⟩].flatMap PEl.els) => show PreB en e by
                      obtain ⟨x, hx, he⟩ := List.mem_flatMap.1 he
                      rcases List.mem_cons.1 hx with rfl | hx
                      · exact HVP3.out.pre e he
                      · rcases List.mem_cons.1 hx with rfl | hx
                        · exact HVQ3.out.pre e he
                        · rw [List.mem_singleton.1 hx] at he; exact hONE.pre e he)
                    have HUU := Lib.hid (U8.step hB12)
                    have HB12 := Lib.hid hB12
                    have hN8 : w.heap.size + 2 ≤ W0.heap.size := by have := X9.lt; omega
                    have HN8 := Lib.hid (Nat.le_trans hN8 hB12.size)
                    have HC1 := Lib.hid (fun W (hb : Below (((W0.alloc (.cells #[.int .i64 fq, .int .i64 fM, .slice fA fn fc, .int .i64 fK] 56)).alloc (.cells #[.slice pA pn pc, .slice (some ⟨b2, off2, none⟩) j c', .slice (some ⟨wr.heap.size + 1, 0, none⟩) 1 1] 34)).drew).heap.size (((W0.alloc (.cells #[.int .i64 fq, .int .i64 fM, .slice fA fn fc, .int .i64 fK] 56)).alloc (.cells #[.slice pA pn pc, .slice (some ⟨b2, off2, none⟩) j c', .slice (some ⟨wr.heap.size + 1, 0, none⟩) 1 1] 34)).drew) W) => (show CBox W wr.heap.size fq fM fA fn fc fK from (X18.step HB12.out).step hb))
                    have HC2 := Lib.hid (fun W W' (X : CBox W wr.heap.size fq fM fA fn fc fK) (hk : KeepUR r W W') => (show CBox W' wr.heap.size fq fM fA fn fc fK from hk.u.rows _ _ _ _ X (.inl rfl)))
                    have hn100 : en ≤ 100 := by omega
                    have HS := Lib.hid (fun W (X : CBox W wr.heap.size fq fM fA fn fc fK) => (⟨X.c0, X.c1, X.c2, X.c3⟩ : W.cell? ⟨wr.heap.size, 0, none⟩ = some (.int .i64 fq) ∧ W.cell? ⟨wr.heap.size, 1, none⟩ = some (.int .i64 fM) ∧ W.cell? ⟨wr.heap.size, 2, none⟩ = some (.slice fA fn fc) ∧ W.cell? ⟨wr.heap.size, 3, none⟩ = some (.int .i64 fK)))
                    have HSA := Lib.hid (HS.out _ (X18.step (Below.refl _ W0).drew))
                    have HSB := Lib.hid (HS.out _ ((X18.alloc (.cells #[.int .i64 fq, .int .i64 fM, .slice fA fn fc, .int .i64 fK] 56)).step (Below.refl _ (W0.alloc (.cells #[.int .i64 fq, .int .i64 fM, .slice fA fn fc, .int .i64 fK] 56))).drew))
                    have HSC := Lib.hid (HS.out _ (X18.step HB12.out))
                    clear haw hB12 hB1 hB2 hG1 hONE hdr U8 v0 v1 v2 v3 x0 x1 x2 x3 y1 hin4
                    by_cases h5 : er5 = 0
                    · subst h5
                      go_region_held3 (fun W => W.cell? ⟨wr.heap.size, 0, none⟩ = some (.int .i64 fq) ∧ W.cell? ⟨wr.heap.size, 1, none⟩ = some (.int .i64 fM) ∧ W.cell? ⟨wr.heap.size, 2, none⟩ = some (.slice fA fn fc) ∧ W.cell? ⟨wr.heap.size, 3, none⟩ = some (.int .i64 fK)) (first | with_reducible exact ⟨g0, g1, g2', g3'⟩ | with_reducible exact HSA.out | with_reducible exact HSB.out | with_reducible exact HSC.out | (trace_state; fail))
                        (first
                          | (go_at_call 52; refine HJ3.out.mono ?_; rintro e w5 ⟨A5, k5, c5, rfl, hC5, hk5, hb5⟩; have X5 := HC1.out w5 hb5; clear g0 g1 g2' g3'; have g0 := X5.c0; have g1 := X5.c1; have g2' := X5.c2; have g3' := X5.c3; have UU := HUU.out.step hb5; have hN5 := Nat.le_trans HN8.out hb5.size)
                          | (go_at_call 74; refine (union_adds (c := c5) hn100 _ UU hC5 HPRE.out hk5 hN5 HAW.out).mono ?_; rintro e w6 ⟨rfl, ⟨u6, us6, hd6, U6⟩, hb6, hk6⟩; have X6 := HC2.out w5 w6 X5 hk6; clear g0 g1 g2' g3'; have g0 := X6.c0; have g1 := X6.c1; have g2' := X6.c2; have g3' := X6.c3))
                      rename_i hHeld
                      clear hHeld
                      have B10 := ((B9.step HB12.out).step hb5).below hb6 (by omega)
                      have X10 := ((X9.step HB12.out).step hb5).below hb6 (by omega)
                      have HK10 := Lib.hid (hku.trans ((KeepU.of_below b18).trans ((KeepU.of_below HB12.out).trans ((KeepU.of_below hb5).trans hk6.u))))
                      have HB10 := Lib.hid (((hbz1.trans (HB12.out.mono hbz1.size)).trans (hb5.mono (Nat.le_trans hbz1.size HB12.out.size))).trans (hb6.mono (by omega)))
                      have HR10 := Lib.hid (HT6.out.trans (congrArg (fun l => ((0 : Int), l)) hd6.symm))
                      go_wp2
                      go_roundg g3
                      case measure => omega
                      case rel => exact ⟨z + 1, by omega, by go_num, ⟨u6, us6, U6, HR10.out⟩, ⟨B10, X10⟩, HK10.out, HB10.out⟩
                    · have h0' : (er5 != 0) = true := by simpa using h5
                      have h0'' : (er5 == 0) = false := by simpa using h5
                      go_region_held3 (fun W => W.cell? ⟨wr.heap.size, 0, none⟩ = some (.int .i64 fq) ∧ W.cell? ⟨wr.heap.size, 1, none⟩ = some (.int .i64 fM) ∧ W.cell? ⟨wr.heap.size, 2, none⟩ = some (.slice fA fn fc) ∧ W.cell? ⟨wr.heap.size, 3, none⟩ = some (.int .i64 fK)) (first | with_reducible exact ⟨g0, g1, g2', g3'⟩ | with_reducible exact HSA.out | with_reducible exact HSB.out | with_reducible exact HSC.out | (trace_state; fail))
                        (first
                          | (go_at_call 52; refine HJ3.out.mono ?_; rintro e w5 ⟨A5, k5, c5, rfl, hC5, hk5, hb5⟩; have X5 := HC1.out w5 hb5; clear g0 g1 g2' g3'; have g0 := X5.c0; have g1 := X5.c1; have g2' := X5.c2; have g3' := X5.c3; have UU := HUU.out.step hb5; have hN5 := Nat.le_trans HN8.out hb5.size)
                          | (go_at_call 74; refine (union_adds (c := c5) hn100 _ UU hC5 HPRE.out hk5 hN5 HAW.out).mono ?_; rintro e w4 ⟨rfl, ⟨u6, us6, hd6, U6⟩, hb6, hk6⟩; have X6 := HC2.out w5 w4 X5 hk6; clear g0 g1 g2' g3'; have g0 := X6.c0; have g1 := X6.c1; have g2' := X6.c2; have g3' := X6.c3))
                      rename_i hHeld
                      clear hHeld
                      have X4 := ((X9.step HB12.out).step hb5).below hb6 (by omega)
                      have HB10 := Lib.hid (((hbz1.trans (HB12.out.mono hbz1.size)).trans (hb5.mono (Nat.le_trans hbz1.size HB12.out.size))).trans (hb6.mono (by omega)))
                      have z0 := X4.c0
                      have z1 := X4.c1
                      have f0 := X4.f 0
                      have f1 := X4.f 1
                      go_wp2
                      obtain ⟨X5, hb8⟩ := And.intro (X4.put 0 none 0 0) (below_put (w := w4) (N := w.heap.size) (b := w.heap.size + 1) (Nat.le_succ _) (.int .i64 0) (.slice none 0 0)); generalize (w4.setCell ⟨w.heap.size + 1, 0, none⟩ (.int .i64 0)).setCell ⟨w.heap.size + 1, 1, none⟩ (.slice none 0 0) = w5 at *; have y0 := X5.c0; have y1 := X5.c1; try rw [Exit.noGoto_ret]
                      refine bodyPost_ret (v := .tuple #[setV 0 none 0 0, .int .i64 er5]) (by simp [results, Tryz.results54, go_sem, y0, y1]) rfl ?_
                      have h7 : (foldE (cutOne en pd cd) ((List.range cd.length).take (j + 1)) (us.map PEl.dat)).1 = er5 := by
                        rw [HT4.out, fold_fail HT6.out h5]
                      exact gather_fail (wd_fail HWD.out HT2.out (by rw [fold_fail rfl (by rw [h7]; exact h5)]; exact h7) h5) h5 (HB10.out.trans hb8)
              · have h0' : (er != 0) = true := by simpa using h0
                have h0'' : (er == 0) = false := by simpa using h0
                go_wp2_with (go_at_call 80; refine (cond_neg eq eM eA en ec eK exs _ y1).mono ?_; rw [HER.out]; rintro e w4 ⟨ul, els3, rfl, _, _, _, hbn⟩; have hb9 := hbx1.trans (hbn.mono hbx1.size); have X4 := (X6.step b5).step hbn; have z0 := X4.c0; have z1 := X4.c1; have f0 := X4.f 0; have f1 := X4.f 1)
                obtain ⟨X5, hb8⟩ := And.intro (X4.put 0 none 0 0) (below_put (w := w4) (N := w.heap.size) (b := w.heap.size + 1) (Nat.le_succ _) (.int .i64 0) (.slice none 0 0)); generalize (w4.setCell ⟨w.heap.size + 1, 0, none⟩ (.int .i64 0)).setCell ⟨w.heap.size + 1, 1, none⟩ (.slice none 0 0) = w5 at *; have y0 := X5.c0; have y1 := X5.c1; try rw [Exit.noGoto_ret]
                refine bodyPost_ret (v := .tuple #[setV 0 none 0 0, .int .i64 er]) (by simp [results, Tryz.results54, go_sem, y0, y1]) rfl ?_
                have h7 : (foldE (cutOne en pd cd) ((List.range cd.length).take (j + 1)) (us.map PEl.dat)).1 = er := by
                  rw [HT3.out]
                  unfold cutOne
                  rw [HCJ.out]
                  simp only [HER.out]
                  rw [if_pos h0]
                exact gather_fail (wd_fail HWD.out HT2.out (by rw [fold_fail rfl (by rw [h7]; exact h0)]; exact h7) h0) h0 (hb9.trans hb8)
        · obtain ⟨kp, hkp⟩ : ∃ kp, keepP us ⟨pA, pn, pc, pels⟩ = kp := ⟨_, rfl⟩
          obtain ⟨ek, us2⟩ := kp
          have HW1 := Lib.hid (show withOne n cd (us.map PEl.dat) (⟨pA, pn, pc, pels⟩ : PEl).dat = (ek, us2.map PEl.dat) by
            unfold withOne
            rw [HP1.out]
            rw [if_neg (show ¬ ((0 : Int) ≠ 0) by decide), if_pos rfl, ← keep_dat, hkp])
          have HKP := Lib.hid hkp
          have HWR := Lib.hid (show w.heap.size + 2 ≤ wr.heap.size from X2.lt)
          clear hkp
          by_cases hek : ek = 0
          · subst hek
            go_wp2_with (first
              | (go_at_call 52; refine HJ.out.mono ?_; rintro e w3 ⟨A3, k3, c3, rfl, hC3, hk3, hb3⟩; have hb4 := (below_alloc wr (.cells #[.slice pA pn pc, .slice B m c'] 34)).trans (hb3.mono (below_alloc wr (.cells #[.slice pA pn pc, .slice B m c'] 34)).size))
              | (go_at_call 71; refine (HPR.out w3 k3 A3 c3 hC3 hk3).mono ?_; rw [HDD.out]; rintro e w4 ⟨A4, k4, c4, l4, rfl, hL4, hd4, hn4, hb5⟩; have hb6 := below_step hb4 hb5; have U4 := HU.out.step hb6; have V4 := HVP.out.step hb6)
              | (go_at_call 79; refine (union_keep (by omega) _ U4 ⟨pA, pn, pc, pels⟩ V4.1 (Nat.le_trans HWR.out hb6.size)).mono ?_; rw [HKP.out]; rintro e w5 ⟨⟨u5, rfl, U5⟩, hb7, hk7⟩))
            go_roundg g
            case measure => omega
            case rel => exact ⟨i + 1, by omega, by go_num, ⟨u5, us2, U5, HT.out.trans HW1.out⟩, ⟨((B2.step hb6).below hb7 (by omega)), ((X2.step hb6).below hb7 (by omega))⟩, hbr.trans ((hb6.mono hbr.size).trans (hb7.mono (by omega)))⟩
          · have h0' : (ek != 0) = true := by simpa using hek
            have h0'' : (ek == 0) = false := by simpa using hek
            go_wp2_with (first
              | (go_at_call 52; refine HJ.out.mono ?_; rintro e w3 ⟨A3, k3, c3, rfl, hC3, hk3, hb3⟩; have hb4 := (below_alloc wr (.cells #[.slice pA pn pc, .slice B m c'] 34)).trans (hb3.mono (below_alloc wr (.cells #[.slice pA pn pc, .slice B m c'] 34)).size))
              | (go_at_call 71; refine (HPR.out w3 k3 A3 c3 hC3 hk3).mono ?_; rw [HDD.out]; rintro e w9 ⟨A4, k4, c4, l4, rfl, hL4, hd4, hn4, hb5⟩; have hb6 := below_step hb4 hb5; have U4 := HU.out.step hb6; have V4 := HVP.out.step hb6)
              | (go_at_call 79; refine (union_keep (by omega) _ U4 ⟨pA, pn, pc, pels⟩ V4.1 (Nat.le_trans HWR.out hb6.size)).mono ?_; rw [HKP.out]; rintro e w4 ⟨⟨u5, rfl, U5⟩, hb7, hk7⟩; have X4 := (X2.step hb6).below hb7 (by omega); have z0 := X4.c0; have z1 := X4.c1; have f0 := X4.f 0; have f1 := X4.f 1))
            obtain ⟨X5, hb8⟩ := And.intro (X4.put 0 none 0 0) (below_put (w := w4) (N := w.heap.size) (b := w.heap.size + 1) (Nat.le_succ _) (.int .i64 0) (.slice none 0 0)); generalize (w4.setCell ⟨w.heap.size + 1, 0, none⟩ (.int .i64 0)).setCell ⟨w.heap.size + 1, 1, none⟩ (.slice none 0 0) = w5 at *; have y0 := X5.c0; have y1 := X5.c1; try rw [Exit.noGoto_ret]
            refine bodyPost_ret (v := .tuple #[setV 0 none 0 0, .int .i64 ek]) (by simp [results, Tryz.results54, go_sem, y0, y1]) rfl ?_
            exact gather_fail (wd_fail HWD.out HT.out (congrArg Prod.fst HW1.out) hek) hek (hbr.trans ((hb6.mono hbr.size).trans ((hb7.mono (by omega)).trans hb8)))
      · have h0' : (er != 0) = true := by simpa using h0
        have h0'' : (er == 0) = false := by simpa using h0
        go_wp2_with (first
          | (go_at_call 52; refine HJ.out.mono ?_; rintro e w3 ⟨A3, k3, c3, rfl, hC3, hk3, hb3⟩; have hb4 := (below_alloc wr (.cells #[.slice pA pn pc, .slice B m c'] 34)).trans (hb3.mono (below_alloc wr (.cells #[.slice pA pn pc, .slice B m c'] 34)).size))
          | (go_at_call 71; refine (HPR.out w3 k3 A3 c3 hC3 hk3).mono ?_; rw [HDD.out]; rintro e w4 ⟨A4, k4, c4, l4, rfl, hL4, hd4, hn4, hb5⟩; have hb6 := below_step hb4 hb5; have X4 := X2.step hb6; have z0 := X4.c0; have z1 := X4.c1; have f0 := X4.f 0; have f1 := X4.f 1))
        obtain ⟨X5, hb8⟩ := And.intro (X4.put 0 none 0 0) (below_put (w := w4) (N := w.heap.size) (b := w.heap.size + 1) (Nat.le_succ _) (.int .i64 0) (.slice none 0 0)); generalize (w4.setCell ⟨w.heap.size + 1, 0, none⟩ (.int .i64 0)).setCell ⟨w.heap.size + 1, 1, none⟩ (.slice none 0 0) = w5 at *; have y0 := X5.c0; have y1 := X5.c1; try rw [Exit.noGoto_ret]
        refine bodyPost_ret (v := .tuple #[setV 0 none 0 0, .int .i64 er]) (by simp [results, Tryz.results54, go_sem, y0, y1]) rfl ?_
        exact gather_fail (wd_fail HWD.out HT.out (by unfold withOne; rw [HP1.out]; exact congrArg Prod.fst (if_pos h0)) h0) h0 (hbr.trans ((hb6.mono hbr.size).trans hb8))
    | zero =>
      obtain rfl : i = k := by omega
      have hge : ¬ ((i : Int) < i) := by omega
      have HDN := Lib.hid (show wd = (0, us.map PEl.dat) by
        rw [← HWD.out]
        unfold withoutD
        rw [← HF.out, List.take_of_length_le (by rw [List.length_map, HLP.out]; exact Nat.le_refl _)])
      have x0 := B2.c0
      have x1 := B2.c1
      have HPC := Lib.hid (union_pieces (wr.drew) (hU.step (Below.refl _ wr).drew))
      have HU4 := Lib.hid hU
      obtain ⟨uA, uc, hu⟩ := hU.slice
      subst hu
      clear hU
      go_wp2
      have d0 := X2.c0
      have d1 := X2.c1
      have e0 := X2.f 0
      have e1 := X2.f 1
      go_region_held3 (fun W => W.cell? ⟨w.heap.size, 0, none⟩ = some (.int .i64 D)) (first | with_reducible exact x0 | go_keep)
        (first | (go_at_call 75; refine HPC.out.mono ?_; rintro e w3 ⟨rfl, rfl⟩))
      all_goals
        rename_i hHeld
        clear hHeld
        have X5 := (X2.put D uA us.length uc).step (Below.refl _ _).drew
        have hU5 := (((HU4.out.set (a := ⟨w.heap.size + 1, 0, none⟩) (by show w.heap.size + 1 < _; omega) X2 (by decide) (by decide) (by decide) (.int .i64 D)).set (a := ⟨w.heap.size + 1, 1, none⟩) (by show w.heap.size + 1 < _; omega) (show (wr.setCell ⟨w.heap.size + 1, 0, none⟩ (.int .i64 D)).heap[w.heap.size + 1]? = some (Obj.cells #[.int .i64 D, .slice none 0 0] 24 (0, 0)) by
          unfold SetBox at X2
          simp only [World.setCell]
          rw [Array.getElem?_modify, if_pos rfl, X2]
          rfl) (by decide) (by decide) (by decide) (.slice uA us.length uc))).step (Below.refl _ _).drew
        have hb7 := (hbr.trans (below_put (w := wr) (N := w.heap.size) (b := w.heap.size + 1) (Nat.le_succ _) (.int .i64 D) (.slice uA us.length uc))).drew
        clear d0 d1 e0 e1 HPC HU4
        generalize ((wr.setCell ⟨w.heap.size + 1, 0, none⟩ (.int .i64 D)).setCell ⟨w.heap.size + 1, 1, none⟩ (.slice uA us.length uc)).drew = w5 at *
        have y0 := X5.c0
        have y1 := X5.c1
        obtain ⟨A5, c5, he5, hP5, hA5⟩ := hU5.pieces
        cases he5
        go_wp2
        try rw [Exit.noGoto_ret]
        refine bodyPost_ret (v := .tuple #[setV D uA us.length uc, .int .i64 0]) (by simp [results, Tryz.results54, go_sem, y0, y1]) rfl ?_
        rw [HDN.out]
        exact ⟨uA, us.length, uc, us, rfl, hP5, hU5.ok, rfl, (fun h => let ⟨g, o, h1, h2⟩ := hA5 h; ⟨g, o, h1, by omega⟩), hb7⟩
end Go.Proofs.YtkgnlloioaobiaaGreat
namespace Go.Proofs.YtkgnlloioaobiaaGreat
open Go.RowKit
def bothE (D : Int) (ps : List PEl) (D' : Int) (ps' : List PEl) : Int := if validS D ps = true ∧ validS D' ps' = true then (if D = D' then 0 else 2) else 1
theorem both_inv {D : Int} {ps : List PEl} {D' : Int} {ps' : List PEl} (h : validS D ps = false ∨ validS D' ps' = false) : bothE D ps D' ps' = 1 := by
  unfold bothE
  rw [if_neg]
  rintro ⟨h1, h2⟩
  rcases h with h | h <;> simp_all
theorem both_ok {D : Int} {ps : List PEl} {D' : Int} {ps' : List PEl} (h : bothE D ps D' ps' = 0) : validS D ps = true ∧ validS D' ps' = true ∧ D = D' := by
  unfold bothE at h
  split at h
  · rename_i hv
    split at h
    · rename_i hd; exact ⟨hv.1, hv.2, hd⟩
    · cases h
  · cases h
set_option maxHeartbeats 4000000 in
theorem set_both (D : Int) (A : Option Addr) (n c : Nat) (ps : List PEl) (D' : Int) (A' : Option Addr) (n' c' : Nat) (ps' : List PEl) (w : World) (h : PiecesAt w A n ps) (h' : PiecesAt w A' n' ps') :
    Calls Tryz.prog 48 #[setV D A n c, setV D' A' n' c'] w fun e w' => e = .returned (.int .i64 (bothE D ps D' ps')) ∧ Below w.heap.size w w' := by
  have B1 := below_step (below_alloc w (.cells #[.int .i64 D, .slice A n c] 24)) (below_alloc _ (.cells #[.int .i64 D', .slice A' n' c'] 24))
  have X1 := (SetBox.new w D A n c).alloc (.cells #[.int .i64 D', .slice A' n' c'] 24)
  have X2 := SetBox.new (w.alloc (.cells #[.int .i64 D, .slice A n c] 24)) D' A' n' c'
  rw [World.size_alloc] at X2
  have P1 := h.step B1
  have P2 := h'.step B1
  have c0 := X1.c0
  have c1 := X1.c1
  have d0 := X2.c0
  have d1 := X2.c1
  have T1 : True := trivial
  obtain ⟨v1, hv1⟩ : ∃ v, validS D ps = v := ⟨_, rfl⟩
  obtain ⟨v2, hv2⟩ : ∃ v, validS D' ps' = v := ⟨_, rfl⟩
  have HV1 := Lib.hid hv1
  have HV2 := Lib.hid hv2
  obtain ⟨er, her⟩ : ∃ er, bothE D ps D' ps' = er := ⟨_, rfl⟩
  rw [her]
  have HE := Lib.hid her
  clear hv1 hv2 her h h'
  cases v1
  · have HR := Lib.hid (show er = 1 by rw [← HE.out]; exact both_inv (.inl HV1.out))
    go_enter Tryz.func48, Tryz.ntmps48
    go_wp2_with (first | (go_at_call 43; have t1 := T1; clear T1 t1; refine (set_valid D A n c ps _ P1).mono ?_; rintro e w1 ⟨rfl, hb⟩; rw [HV1.out]; replace B1 := below_step B1 hb; replace P2 := P2.step hb; replace X1 := X1.step hb; replace X2 := X2.step hb; clear c0 c1 d0 d1; have c0 := X1.c0; have c1 := X1.c1; have d0 := X2.c0; have d1 := X2.c1))
    go_ret
    exact ⟨ret1 (vint HR.out.symm), B1⟩
  · cases v2
    · have HR := Lib.hid (show er = 1 by rw [← HE.out]; exact both_inv (.inr HV2.out))
      go_enter Tryz.func48, Tryz.ntmps48
      go_wp2_with (first | (go_at_call 43; have t1 := T1; clear T1 t1; refine (set_valid D A n c ps _ P1).mono ?_; rintro e w1 ⟨rfl, hb⟩; rw [HV1.out]; replace B1 := below_step B1 hb; replace P2 := P2.step hb; replace X1 := X1.step hb; replace X2 := X2.step hb; clear c0 c1 d0 d1; have c0 := X1.c0; have c1 := X1.c1; have d0 := X2.c0; have d1 := X2.c1) | (go_at_call 43; refine (set_valid D' A' n' c' ps' _ P2).mono ?_; rintro e w2 ⟨rfl, hb⟩; rw [HV2.out]; replace B1 := below_step B1 hb; replace X1 := X1.step hb; replace X2 := X2.step hb; clear c0 c1 d0 d1; have c0 := X1.c0; have c1 := X1.c1; have d0 := X2.c0; have d1 := X2.c1))
      go_ret
      exact ⟨ret1 (vint HR.out.symm), B1⟩
    · by_cases hd : D = D'
      · have HR := Lib.hid (show er = 0 by rw [← HE.out]; unfold bothE; rw [if_pos ⟨HV1.out, HV2.out⟩, if_pos hd])
        have q1 : (D != D') = false := by simpa using hd
        have q2 : (D == D') = true := by simpa using hd
        clear hd
        go_enter Tryz.func48, Tryz.ntmps48
        go_wp2_with (first | (go_at_call 43; have t1 := T1; clear T1 t1; refine (set_valid D A n c ps _ P1).mono ?_; rintro e w1 ⟨rfl, hb⟩; rw [HV1.out]; replace B1 := below_step B1 hb; replace P2 := P2.step hb; replace X1 := X1.step hb; replace X2 := X2.step hb; clear c0 c1 d0 d1; have c0 := X1.c0; have c1 := X1.c1; have d0 := X2.c0; have d1 := X2.c1) | (go_at_call 43; refine (set_valid D' A' n' c' ps' _ P2).mono ?_; rintro e w2 ⟨rfl, hb⟩; rw [HV2.out]; replace B1 := below_step B1 hb; replace X1 := X1.step hb; replace X2 := X2.step hb; clear c0 c1 d0 d1; have c0 := X1.c0; have c1 := X1.c1; have d0 := X2.c0; have d1 := X2.c1))
        go_ret
        exact ⟨ret1 (vint HR.out.symm), B1⟩
      · have HR := Lib.hid (show er = 2 by rw [← HE.out]; unfold bothE; rw [if_pos ⟨HV1.out, HV2.out⟩, if_neg hd])
        have q1 : (D != D') = true := by simpa using hd
        have q2 : (D == D') = false := by simpa using hd
        clear hd
        go_enter Tryz.func48, Tryz.ntmps48
        go_wp2_with (first | (go_at_call 43; have t1 := T1; clear T1 t1; refine (set_valid D A n c ps _ P1).mono ?_; rintro e w1 ⟨rfl, hb⟩; rw [HV1.out]; replace B1 := below_step B1 hb; replace P2 := P2.step hb; replace X1 := X1.step hb; replace X2 := X2.step hb; clear c0 c1 d0 d1; have c0 := X1.c0; have c1 := X1.c1; have d0 := X2.c0; have d1 := X2.c1) | (go_at_call 43; refine (set_valid D' A' n' c' ps' _ P2).mono ?_; rintro e w2 ⟨rfl, hb⟩; rw [HV2.out]; replace B1 := below_step B1 hb; replace X1 := X1.step hb; replace X2 := X2.step hb; clear c0 c1 d0 d1; have c0 := X1.c0; have c1 := X1.c1; have d0 := X2.c0; have d1 := X2.c1))
        go_ret
        exact ⟨ret1 (vint HR.out.symm), B1⟩
end Go.Proofs.YtkgnlloioaobiaaGreat
namespace Go.Proofs.YtkgnlloioaobiaaGreat
open Go.RowKit
theorem without_good {n : Nat} (hn : n ≤ 12) {ps : List (List CD)} {c : List CD} (hp : GoodU n ps) (hc : (∀ d ∈ c, ValidD n d) ∧ c.length ≤ 96) : GoodU n (withoutD n ps c).2 := by
  unfold withoutD
  refine fold_good (P := GoodU n) ⟨(fun u h => nomatch h), by simp⟩ fun p hpm us hu => ?_
  unfold withOne
  split
  · exact hu
  · split
    · exact keep_good hu (hp.1 p hpm)
    · refine fold_good (P := GoodU n) hu fun i hi us hu => ?_
      unfold cutOne
      split
      · rename_i d hd
        have hv := hc.1 d (List.mem_of_getElem? hd)
        split
        · exact hu
        · refine fold_good (P := GoodU n) hu fun z hz us hu => add_good hu ?_
          intro x hx
          rcases List.mem_append.1 hx with hx | hx
          · exact ((hp.1 p hpm).1 x hx).kind
          · rcases List.mem_append.1 hx with hx | hx
            · exact (hc.1 x (List.mem_of_mem_take hx)).kind
            · rw [List.mem_singleton.1 hx]; exact (neg_valid hn hv.1 hv.2 z hz).kind
      · exact hu
end Go.Proofs.YtkgnlloioaobiaaGreat
namespace Go.Proofs.YtkgnlloioaobiaaGreat
open Go.RowKit Go.Shelf
theorem gather_ok {n : Nat} {w w' : World} {e : Ending} {D : Int} {l : List (List CD)} (h : GatherRet n w e w' D (0, l)) :
    ∃ A k c ps, e = .returned (.tuple #[setV D A k c, .int .i64 0]) ∧ PiecesAt w' A k ps ∧ (∀ p ∈ ps, PieceOk n w' p) ∧ ps.map PEl.dat = l ∧ (0 < k → ∃ g o, A = some ⟨g, o, none⟩ ∧ w.heap.size ≤ g) ∧ Below w.heap.size w w' := h
theorem gather_bad {n : Nat} {w w' : World} {e : Ending} {D : Int} {l : List (List CD)} {er : Int} (h0 : er ≠ 0) (h : GatherRet n w e w' D (er, l)) :
    ∃ A k c, e = .returned (.tuple #[setV 0 A k c, .int .i64 er]) ∧ Below w.heap.size w w' := by
  obtain ⟨A, k, c, ps, he, _, _, _, _, hb⟩ := h
  have h0 : ((er, l).1 ≠ 0) := h0
  rw [if_pos h0] at he
  exact ⟨A, k, c, he, hb⟩
theorem pieceV_of {n : Nat} {w : World} {ps : List PEl} {l : List (List CD)} (hok : ∀ p ∈ ps, PieceOk n w p) (hd : ps.map PEl.dat = l) (hg : GoodU n l) : (∀ p ∈ ps, PieceV n w p) ∧ ps.length ≤ 400 := by
  subst hd
  refine ⟨fun p hp => ⟨hok p hp, ?_⟩, by have := hg.2; rwa [List.length_map] at this⟩
  obtain ⟨h1, h2⟩ := hg.1 p.dat (List.mem_map.2 ⟨p, hp, rfl⟩)
  exact ⟨h1, by rwa [PEl.dat, List.length_map] at h2⟩
theorem valid_kinds {D : Int} {w : World} {A : Option Addr} {k : Nat} {ps : List PEl} (hP : PiecesAt w A k ps) (hv : validS D ps = true) : ∀ ds ∈ ps.map PEl.dat, KindsOk D.toNat ds := fun ds hds d hd => by
  obtain ⟨p, hp, rfl⟩ := List.mem_map.1 hds
  obtain ⟨e, he, rfl⟩ := List.mem_map.1 hd
  have h1 := ((valid_parts hv).2 p hp).1 e he
  have hl := ((hP.conds p hp).ints e he).len
  exact ⟨h1.2.1, by have := h1.1; show e.xs.length = _; omega⟩
theorem minus_val {n : Nat} {ps qs l1 l2 : List (List CD)} (h1 : gatherD n ps = (0, l1)) (h2 : gatherD n qs = (0, l2)) : minusD n ps qs = foldE (withoutD n) l2 l1 := by
  unfold minusD
  rw [h1, h2]
  rw [if_neg (show ¬ ((0 : Int) ≠ 0) by decide), if_neg (show ¬ ((0 : Int) ≠ 0) by decide)]
theorem minus_e1 {n : Nat} {ps qs l1 : List (List CD)} {er : Int} (h1 : gatherD n ps = (er, l1)) (h0 : er ≠ 0) : (minusD n ps qs).1 = er := by
  unfold minusD
  rw [h1, if_pos h0]
theorem minus_e2 {n : Nat} {ps qs l1 l2 : List (List CD)} {er : Int} (h1 : gatherD n ps = (0, l1)) (h2 : gatherD n qs = (er, l2)) (h0 : er ≠ 0) : (minusD n ps qs).1 = er := by
  unfold minusD
  rw [h1, h2, if_neg (show ¬ ((0 : Int) ≠ 0) by decide), if_pos h0]
theorem put_far {w : World} {b k : Nat} {D : Int} {A : Option Addr} {n c : Nat} (h : SetBox w k D A n c) (hk : k ≠ b) (x y : Value) : SetBox ((w.setCell ⟨b, 0, none⟩ x).setCell ⟨b, 1, none⟩ y) k D A n c := (put_other hk x y).trans h
set_option maxHeartbeats 8000000 in
theorem set_minus (D : Int) (A : Option Addr) (n c : Nat) (ps : List PEl) (A' : Option Addr) (n' c' : Nat) (ps' : List PEl) (w : World) (h : PiecesAt w A n ps) (h' : PiecesAt w A' n' ps') (hv1 : validS D ps = true) (hv2 : validS D ps' = true) :
    Calls Tryz.prog 18 #[setV D A n c, setV D A' n' c'] w fun e w' => GatherRet D.toNat w e w' D (minusD D.toNat (ps.map PEl.dat) (ps'.map PEl.dat)) := by
  have HE := Lib.hid (show bothE D ps D ps' = 0 by unfold bothE; rw [if_pos ⟨hv1, hv2⟩, if_pos rfl])
  obtain ⟨md, hmd⟩ : ∃ md, minusD D.toNat (ps.map PEl.dat) (ps'.map PEl.dat) = md := ⟨_, rfl⟩
  rw [hmd]
  have hD : D.toNat ≤ 12 := by have := (valid_parts hv1).1; omega
  have HD := Lib.hid hD
  have HN1 := Lib.hid (fun W (P : PiecesAt W A n ps) => set_normal D A n c ps W P hv1)
  have HN2 := Lib.hid (fun W (P : PiecesAt W A' n' ps') => set_normal D A' n' c' ps' W P hv2)
  have HGU1 := Lib.hid (gather_good (valid_kinds h hv1))
  have HGU2 := Lib.hid (gather_good (valid_kinds h' hv2))
  obtain ⟨g1, hg1⟩ : ∃ g, gatherD D.toNat (ps.map PEl.dat) = g := ⟨_, rfl⟩
  obtain ⟨g2, hg2⟩ : ∃ g, gatherD D.toNat (ps'.map PEl.dat) = g := ⟨_, rfl⟩
  obtain ⟨er1, l1⟩ := g1
  obtain ⟨er2, l2⟩ := g2
  rw [hg1] at HN1 HGU1
  rw [hg2] at HN2 HGU2
  have HM := Lib.hid (And.intro hmd (And.intro hg1 hg2))
  obtain ⟨nn, hnn⟩ : ∃ nn, D.toNat = nn := ⟨_, rfl⟩
  rw [hnn] at HN1 HN2 HGU1 HGU2 HM HD ⊢
  have B1 := below_step (below_step (below_alloc w (.cells #[.int .i64 D, .slice A n c] 24)) (below_alloc _ (.cells #[.int .i64 D, .slice A' n' c'] 24))) (below_alloc _ (.cells #[.int .i64 0, .slice none 0 0] 24))
  have X1 := ((SetBox.new w D A n c).alloc (.cells #[.int .i64 D, .slice A' n' c'] 24)).alloc (.cells #[.int .i64 0, .slice none 0 0] 24)
  have X2 := (SetBox.new (w.alloc (.cells #[.int .i64 D, .slice A n c] 24)) D A' n' c').alloc (.cells #[.int .i64 0, .slice none 0 0] 24)
  have X3 : SetBox (((w.alloc (.cells #[.int .i64 D, .slice A n c] 24)).alloc (.cells #[.int .i64 D, .slice A' n' c'] 24)).alloc (.cells #[.int .i64 0, .slice none 0 0] 24)) (w.heap.size + 2) 0 none 0 0 := by
    have := SetBox.new ((w.alloc (.cells #[.int .i64 D, .slice A n c] 24)).alloc (.cells #[.int .i64 D, .slice A' n' c'] 24)) 0 none 0 0
    rw [World.size_alloc, World.size_alloc] at this
    exact this
  rw [World.size_alloc] at X2
  have P1 := h.step B1
  have P2 := h'.step B1
  have c0 := X1.c0
  have c1 := X1.c1
  have d0 := X2.c0
  have d1 := X2.c1
  have T1 : True := trivial
  clear h h' hv1 hv2 hg1 hg2 hmd hD hnn
  by_cases h1 : er1 = 0
  · subst h1
    by_cases h2 : er2 = 0
    · subst h2
      go_enter Tryz.func18, Tryz.ntmps18
      go_wp2_with (first
        | (go_at_call 48; refine (set_both D A n c ps D A' n' c' ps' _ P1 P2).mono ?_; rintro e w1 ⟨rfl, hb⟩; rw [HE.out]; replace B1 := below_step B1 hb; replace X1 := X1.step hb; replace X2 := X2.step hb; replace X3 := X3.step hb; replace P1 := P1.step hb; replace P2 := P2.step hb; clear c0 c1 d0 d1; have c0 := X1.c0; have c1 := X1.c1; have HW1 := Lib.hid (show w.heap.size + 3 ≤ w1.heap.size from X3.lt))
        | (go_at_call 11; have t1 := T1; clear T1 t1; refine (HN1.out _ P1).mono ?_; rintro e w2 hG; obtain ⟨A3, k3, c3, us, rfl, hP3, hok3, hd3, hA3, hb2⟩ := gather_ok hG; have S1 := SetBox.new w2 D A3 k3 c3; have b2 := below_step hb2 (below_alloc w2 (.cells #[.int .i64 D, .slice A3 k3 c3] 24)); replace B1 := below_step B1 b2; replace X2 := X2.step b2; replace X3 := X3.step b2; replace P2 := P2.step b2; clear c0 c1 X1 P1; have d0 := X2.c0; have d1 := X2.c1; have b3 := below_alloc w2 (.cells #[.int .i64 D, .slice A3 k3 c3] 24); have HG3 := Lib.hid (And.intro (hP3.step b3) (And.intro (fun p hp => (hok3 p hp).keep (.of_below b3)) (And.intro hd3 (And.intro hA3 (And.intro (fun h0 => (let ⟨b, off, hA, hlt, _⟩ := hP3.cells h0; ⟨b, off, hA, hlt⟩ : ∃ g o, A3 = some ⟨g, o, none⟩ ∧ g < w2.heap.size)) hb2.size))))); clear hG hP3 hok3 hd3 hA3 hb2 b2 b3)
        | (go_at_call 11; refine (HN2.out _ P2).mono ?_; rintro e w4 hG; obtain ⟨A4, k4, c4, qs, rfl, hP4, hok4, hd4, hA4, hb4⟩ := gather_ok hG; have b4 := below_alloc w4 (.cells #[.int .i64 D, .slice A4 k4 c4] 24); have b5 := below_step hb4 b4; replace B1 := below_step B1 b5; replace S1 := S1.step b5; replace X3 := X3.step b5; clear d0 d1 X2 P2; have HG4 := Lib.hid (And.intro (hP4.step b4) (And.intro (fun p hp => (hok4 p hp).keep (.of_below b4)) (And.intro hd4 hA4))); have HG3b := Lib.hid (And.intro (HG3.out.1.step b5) (fun p hp => (HG3.out.2.1 p hp).keep (.of_below b5))); clear hG hP4 hok4 hd4 hA4 hb4 b4 b5))
      generalize w4.alloc (.cells #[.int .i64 D, .slice A4 k4 c4] 24) = w5 at *
      have HQV := Lib.hid (pieceV_of HG4.out.2.1 HG4.out.2.2.1 HGU2.out)
      have HUV := Lib.hid (pieceV_of HG3b.out.2 HG3.out.2.2.1 HGU1.out)
      have HQ4 := Lib.hid (show 0 < k4 → ∀ g o, A4 = some ⟨g, o, none⟩ → g ≠ w2.heap.size from fun h0 g o hA => by
        obtain ⟨g', o', h1, h2⟩ := HG4.out.2.2.2 h0
        rw [hA] at h1
        cases h1
        rw [World.size_alloc] at h2
        omega)
      have HFR := Lib.hid (show 0 < k3 → ∃ g o, A3 = some ⟨g, o, none⟩ ∧ w.heap.size + 3 ≤ g ∧ g ≠ w2.heap.size from fun h0 => by
        obtain ⟨g, o, h1, h2⟩ := HG3.out.2.2.2.1 h0
        obtain ⟨g', o', h3, h4⟩ := HG3.out.2.2.2.2.1 h0
        rw [h1] at h3
        cases h3
        have := HW1.out
        exact ⟨g, o, h1, by omega, by omega⟩)
      have hw2 := Nat.le_trans HW1.out HG3.out.2.2.2.2.2
      have hk4 : k4 ≤ 400 := by have h5 := HG4.out.1.len; have h6 := HQV.out.2; omega
      have HW2 := Lib.hid hw2
      go_loopg [40] k4 (fun g v wr => ∃ i : Nat, i + g = k4 ∧ v = .int .i64 i ∧ (∃ A5 k5 c5 us5, SetBox wr w2.heap.size D A5 k5 c5 ∧ (PiecesAt wr A5 k5 us5 ∧ (∀ p ∈ us5, PieceV nn wr p)) ∧ (GoodU nn (us5.map PEl.dat) ∧ foldE (withoutD nn) (l2.take i) l1 = (0, us5.map PEl.dat)) ∧ (0 < k5 → ∃ g o, A5 = some ⟨g, o, none⟩ ∧ w.heap.size + 3 ≤ g ∧ g ≠ w2.heap.size)) ∧ SetBox wr (w.heap.size + 2) 0 none 0 0 ∧ (PiecesAt wr A4 k4 qs ∧ ∀ p ∈ qs, PieceV nn wr p) ∧ Below w.heap.size w wr)
      case atStart => exact ⟨0, by omega, rfl, ⟨A3, k3, c3, us, S1, ⟨HG3b.out.1, HUV.out.1⟩, ⟨by rw [HG3.out.2.2.1]; exact HGU1.out, by rw [HG3.out.2.2.1]; rfl⟩, HFR.out⟩, X3, ⟨HG4.out.1, HQV.out.1⟩, B1⟩
      case round =>
        clear S1 X3 B1
        obtain ⟨i, hig, rfl, ⟨A5, k5, c5, us5, S5, ⟨P5, hV5⟩, ⟨hG5, hF5⟩, hA5⟩, X5, ⟨Q5, hW5⟩, hbr⟩ := hrel
        have HV5 := Lib.hid hV5
        have HG5 := Lib.hid hG5
        have HF5 := Lib.hid hF5
        have HA5 := Lib.hid hA5
        have HW5 := Lib.hid hW5
        have hx5 := S5.c0
        have hx6 := S5.c1
        clear hV5 hG5 hF5 hA5 hW5
        cases gk with
        | succ g =>
          have hlt : i < k4 := by omega
          obtain ⟨b1, off1, q, hA, hblt, hqj, hmem, hcell, hCq⟩ := Q5.at hlt
          have HVq := Lib.hid (HW5.out q hmem)
          have HQ9 := Lib.hid (HQ4.out (by omega) b1 off1 hA)
          obtain ⟨r6, hr6⟩ : ∃ r, withoutD nn (us5.map PEl.dat) q.dat = r := ⟨_, rfl⟩
          obtain ⟨er6, l6⟩ := r6
          have HT := Lib.hid ((fold_take (f := withoutD nn) (l := l2) (i := i) (x := q.dat) (by rw [← HG4.out.2.2.1, List.getElem?_map, hqj]; rfl) HF5.out).trans hr6)
          have HGG := Lib.hid (show GoodU nn l6 by
            have := without_good HD.out HG5.out (c := q.dat) ⟨HVq.out.2.1, by rw [PEl.dat, List.length_map]; exact HVq.out.2.2⟩
            rw [hr6] at this
            exact this)
          have HWO := Lib.hid (show Calls Tryz.prog 54 #[setV D A5 k5 c5, .slice q.A q.n q.c] wr fun e w' => GatherRet nn wr e w' D (er6, l6) by
            rw [← hr6]
            exact set_without HD.out D A5 k5 c5 us5 q.A q.n q.c q.els wr P5 (by have h5 := P5.len; have h6 := HG5.out.2; rw [List.length_map] at h6; omega) HV5.out HVq.out)
          obtain ⟨qA, qn, qc, qels⟩ := q
          simp only at hcell HWO
          have hqq : (i : Int) < k4 := by omega
          subst hA
          clear hqj hmem hCq hr6
          by_cases h0 : er6 = 0
          · subst h0
            go_wp2_with (go_at_call 54; refine HWO.out.mono ?_; rintro e w6 hG; obtain ⟨A6, k6, c6, us6, rfl, hP6, hok6, hd6, hA6, hb6⟩ := gather_ok hG; have S6 := S5.step hb6; have X6 := X5.step hb6; have z0 := S6.c0; have z1 := S6.c1; have f0 := S6.f 0; have f1 := S6.f 1; have HG6 := Lib.hid (And.intro hP6 (And.intro hok6 (And.intro hd6 (And.intro hA6 (And.intro (Q5.step hb6) (And.intro (fun p hp => (HW5.out p hp).step hb6) hb6)))))); clear hG hP6 hok6 hd6 hA6 hb6)
            have hku := S6.keepU (.int .i64 D) (.slice A6 k6 c6)
            have HV6 := Lib.hid (pieceV_of HG6.out.2.1 HG6.out.2.2.1 HGG.out)
            have hl5 := S5.lt
            have HS6 := Lib.hid (show (0 < k6 → ∃ g o, A6 = some ⟨g, o, none⟩ ∧ w.heap.size + 3 ≤ g ∧ g ≠ w2.heap.size) from fun h0 => by
              obtain ⟨g, o, h1, h2⟩ := HG6.out.2.2.2.1 h0
              have := HW2.out
              exact ⟨g, o, h1, by omega, by omega⟩)
            have HRL := Lib.hid (⟨S6.put D A6 k6 c6, ⟨pieces_move HG6.out.1 (fun p hp => ((HV6.out.1 p hp).keep hku).1) hku.size (fun h0 g o hA => by
              obtain ⟨g', o', h1, h2, h3⟩ := HS6.out h0
              rw [hA] at h1
              cases h1
              exact put_other h3 _ _), fun p hp => (HV6.out.1 p hp).keep hku⟩, ⟨by rw [HG6.out.2.2.1]; exact HGG.out, by rw [HG6.out.2.2.1]; exact HT.out⟩, HS6.out⟩ : SetBox _ w2.heap.size D A6 k6 c6 ∧ (PiecesAt _ A6 k6 us6 ∧ ∀ p ∈ us6, PieceV nn _ p) ∧ (GoodU nn (us6.map PEl.dat) ∧ foldE (withoutD nn) (l2.take (i + 1)) l1 = (0, us6.map PEl.dat)) ∧ (0 < k6 → ∃ g o, A6 = some ⟨g, o, none⟩ ∧ w.heap.size + 3 ≤ g ∧ g ≠ w2.heap.size))
            have HX6 := Lib.hid (put_far X6 (b := w2.heap.size) (by have := HW2.out; omega) (.int .i64 D) (.slice A6 k6 c6))
            have HQ6 := Lib.hid (⟨pieces_move HG6.out.2.2.2.2.1 (fun p hp => ((HG6.out.2.2.2.2.2.1 p hp).keep hku).1) hku.size (fun h0 g o hA => put_other (HQ4.out h0 g o hA) _ _), fun p hp => (HG6.out.2.2.2.2.2.1 p hp).keep hku⟩ : PiecesAt _ (some ⟨b1, off1, none⟩) k4 qs ∧ ∀ p ∈ qs, PieceV nn _ p)
            have HBR := Lib.hid ((hbr.trans (HG6.out.2.2.2.2.2.2.mono hbr.size)).trans (below_put (w := w6) (N := w.heap.size) (b := w2.heap.size) (by have := HW2.out; omega) (.int .i64 D) (.slice A6 k6 c6)))
            clear hku
            go_roundg g
            case measure => omega
            case rel => exact ⟨i + 1, by omega, by go_num, ⟨A6, k6, c6, us6, HRL.out⟩, HX6.out, HQ6.out, HBR.out⟩
          · have h0' : (er6 != 0) = true := by simpa using h0
            have h0'' : (er6 == 0) = false := by simpa using h0
            go_wp2_with (go_at_call 54; refine HWO.out.mono ?_; rintro e w6 hG; obtain ⟨A6, k6, c6, rfl, hb6⟩ := gather_bad h0 hG; have S6 := S5.step hb6; have X6 := put_far (X5.step hb6) (b := w2.heap.size) (by have := HW2.out; omega) (.int .i64 0) (.slice A6 k6 c6); have z0 := S6.c0; have z1 := S6.c1; have f0 := S6.f 0; have f1 := S6.f 1; have hb7 := (hbr.trans (hb6.mono hbr.size)).trans (below_put (w := w6) (N := w.heap.size) (b := w2.heap.size) (by have := HW2.out; omega) (.int .i64 0) (.slice A6 k6 c6)); have u0 := X6.c0; have u1 := X6.c1; have v0 := X6.f 0; have v1 := X6.f 1; clear hG)
            generalize (w6.setCell ⟨w2.heap.size, 0, none⟩ (.int .i64 0)).setCell ⟨w2.heap.size, 1, none⟩ (.slice A6 k6 c6) = w4 at *
            have X4 := X6
            have X5 := X4.put 0 none 0 0; have hb8 := below_put (w := w4) (N := w.heap.size) (b := w.heap.size + 2) (by omega) (.int .i64 0) (.slice none 0 0); generalize (w4.setCell ⟨w.heap.size + 2, 0, none⟩ (.int .i64 0)).setCell ⟨w.heap.size + 2, 1, none⟩ (.slice none 0 0) = w5 at *; have y0 := X5.c0; have y1 := X5.c1; try rw [Exit.noGoto_ret]
            refine bodyPost_ret (v := .tuple #[setV 0 none 0 0, .int .i64 er6]) (by simp [results, Tryz.results18, go_sem, y0, y1]) rfl ?_
            have HR := (show md.1 = er6 by
              rw [← HM.out.1, minus_val HM.out.2.1 HM.out.2.2, fold_fail HT.out h0])
            exact gather_fail HR h0 (hb7.trans hb8)
        | zero =>
          obtain rfl : i = k4 := by omega
          have hge : ¬ ((i : Int) < i) := by omega
          have HR := Lib.hid (show md = (0, us5.map PEl.dat) by
            rw [← HM.out.1, minus_val HM.out.2.1 HM.out.2.2, ← HF5.out, List.take_of_length_le]
            rw [← HG4.out.2.2.1, List.length_map, HG4.out.1.len]
            exact Nat.le_refl _)
          have u0 := X5.c0
          have u1 := X5.c1
          have v0 := X5.f 0
          have v1 := X5.f 1
          go_wp2
          have X7 := X5.put D A5 k5 c5
          have hku := X5.keepU (.int .i64 D) (.slice A5 k5 c5)
          have hP7 := pieces_move P5 (fun p hp => ((HV5.out p hp).keep hku).1) hku.size (fun h0 g o hA => by
            obtain ⟨g', o', h1, h2, h3⟩ := HA5.out h0
            rw [hA] at h1
            cases h1
            exact put_other (by omega) _ _)
          have hok7 := fun p hp => ((HV5.out p hp).keep hku).1
          have hb8 := hbr.trans (below_put (w := wr) (N := w.heap.size) (b := w.heap.size + 2) (by omega) (.int .i64 D) (.slice A5 k5 c5))
          clear hku
          generalize (wr.setCell ⟨w.heap.size + 2, 0, none⟩ (.int .i64 D)).setCell ⟨w.heap.size + 2, 1, none⟩ (.slice A5 k5 c5) = w7 at *
          have y0 := X7.c0
          have y1 := X7.c1
          try rw [Exit.noGoto_ret]
          refine bodyPost_ret (v := .tuple #[setV D A5 k5 c5, .int .i64 0]) (by simp [results, Tryz.results18, go_sem, y0, y1]) rfl ?_
          rw [HR.out]
          exact ⟨A5, k5, c5, us5, rfl, hP7, hok7, rfl, (fun h => let ⟨g, o, h1, h2, _⟩ := HA5.out h; ⟨g, o, h1, by omega⟩), hb8⟩
    · have h0' : (er2 != 0) = true := by simpa using h2
      have h0'' : (er2 == 0) = false := by simpa using h2
      have HR := Lib.hid (show md.1 = er2 by rw [← HM.out.1]; exact minus_e2 HM.out.2.1 HM.out.2.2 h2)
      go_enter Tryz.func18, Tryz.ntmps18
      go_wp2_with (first
        | (go_at_call 48; refine (set_both D A n c ps D A' n' c' ps' _ P1 P2).mono ?_; rintro e w1 ⟨rfl, hb⟩; rw [HE.out]; replace B1 := below_step B1 hb; replace X1 := X1.step hb; replace X2 := X2.step hb; replace X3 := X3.step hb; replace P1 := P1.step hb; replace P2 := P2.step hb; clear c0 c1 d0 d1; have c0 := X1.c0; have c1 := X1.c1; have HW1 := Lib.hid (show w.heap.size + 3 ≤ w1.heap.size from X3.lt))
        | (go_at_call 11; have t1 := T1; clear T1 t1; refine (HN1.out _ P1).mono ?_; rintro e w2 hG; obtain ⟨A3, k3, c3, us, rfl, hP3, hok3, hd3, hA3, hb2⟩ := gather_ok hG; have S1 := SetBox.new w2 D A3 k3 c3; have b2 := below_step hb2 (below_alloc w2 (.cells #[.int .i64 D, .slice A3 k3 c3] 24)); replace B1 := below_step B1 b2; replace X2 := X2.step b2; replace X3 := X3.step b2; replace P2 := P2.step b2; clear c0 c1 X1 P1; have d0 := X2.c0; have d1 := X2.c1; have b3 := below_alloc w2 (.cells #[.int .i64 D, .slice A3 k3 c3] 24); have HG3 := Lib.hid (And.intro (hP3.step b3) (And.intro (fun p hp => (hok3 p hp).keep (.of_below b3)) (And.intro hd3 (And.intro hA3 (And.intro (fun h0 => (let ⟨b, off, hA, hlt, _⟩ := hP3.cells h0; ⟨b, off, hA, hlt⟩ : ∃ g o, A3 = some ⟨g, o, none⟩ ∧ g < w2.heap.size)) hb2.size))))); clear hG hP3 hok3 hd3 hA3 hb2 b2 b3)
        | (go_at_call 11; refine (HN2.out _ P2).mono ?_; rintro e w9 hG; obtain ⟨A4, k4, c4, rfl, hb4⟩ := gather_bad h2 hG; replace B1 := below_step (below_step B1 hb4) (below_alloc w9 (.cells #[.int .i64 0, .slice A4 k4 c4] 24)); have X4 := (X3.step hb4).alloc (.cells #[.int .i64 0, .slice A4 k4 c4] 24); have z0 := X4.c0; have z1 := X4.c1; have f0 := X4.f 0; have f1 := X4.f 1; clear hG; generalize hw4 : w9.alloc (.cells #[.int .i64 0, .slice A4 k4 c4] 24) = w4 at *))
      have X5 := X4.put 0 none 0 0; have hb8 := below_put (w := w4) (N := w.heap.size) (b := w.heap.size + 2) (by omega) (.int .i64 0) (.slice none 0 0); generalize (w4.setCell ⟨w.heap.size + 2, 0, none⟩ (.int .i64 0)).setCell ⟨w.heap.size + 2, 1, none⟩ (.slice none 0 0) = w5 at *; have y0 := X5.c0; have y1 := X5.c1; try rw [Exit.noGoto_ret]
      refine bodyPost_ret (v := .tuple #[setV 0 none 0 0, .int .i64 er2]) (by simp [results, Tryz.results18, go_sem, y0, y1]) rfl ?_
      exact gather_fail HR.out h2 (B1.trans hb8)
  · have h0' : (er1 != 0) = true := by simpa using h1
    have h0'' : (er1 == 0) = false := by simpa using h1
    have HR := Lib.hid (show md.1 = er1 by rw [← HM.out.1]; exact minus_e1 HM.out.2.1 h1)
    go_enter Tryz.func18, Tryz.ntmps18
    go_wp2_with (first
      | (go_at_call 48; refine (set_both D A n c ps D A' n' c' ps' _ P1 P2).mono ?_; rintro e w1 ⟨rfl, hb⟩; rw [HE.out]; replace B1 := below_step B1 hb; replace X1 := X1.step hb; replace X2 := X2.step hb; replace X3 := X3.step hb; replace P1 := P1.step hb; replace P2 := P2.step hb; clear c0 c1 d0 d1; have c0 := X1.c0; have c1 := X1.c1; have HW1 := Lib.hid (show w.heap.size + 3 ≤ w1.heap.size from X3.lt))
      | (go_at_call 11; refine (HN1.out _ P1).mono ?_; rintro e w9 hG; obtain ⟨A4, k4, c4, rfl, hb4⟩ := gather_bad h1 hG; replace B1 := below_step (below_step B1 hb4) (below_alloc w9 (.cells #[.int .i64 0, .slice A4 k4 c4] 24)); have X4 := (X3.step hb4).alloc (.cells #[.int .i64 0, .slice A4 k4 c4] 24); have z0 := X4.c0; have z1 := X4.c1; have f0 := X4.f 0; have f1 := X4.f 1; clear hG; generalize hw4 : w9.alloc (.cells #[.int .i64 0, .slice A4 k4 c4] 24) = w4 at *))
    have X5 := X4.put 0 none 0 0; have hb8 := below_put (w := w4) (N := w.heap.size) (b := w.heap.size + 2) (by omega) (.int .i64 0) (.slice none 0 0); generalize (w4.setCell ⟨w.heap.size + 2, 0, none⟩ (.int .i64 0)).setCell ⟨w.heap.size + 2, 1, none⟩ (.slice none 0 0) = w5 at *; have y0 := X5.c0; have y1 := X5.c1; try rw [Exit.noGoto_ret]
    refine bodyPost_ret (v := .tuple #[setV 0 none 0 0, .int .i64 er1]) (by simp [results, Tryz.results18, go_sem, y0, y1]) rfl ?_
    exact gather_fail HR.out h1 (B1.trans hb8)
end Go.Proofs.YtkgnlloioaobiaaGreat
namespace Go.Proofs.YtkgnlloioaobiaaGreat
open Go.RowKit
def sameC (q M : Int) (xs : List Int) (K : Int) (q' M' : Int) (ys : List Int) (K' : Int) : Bool := (q == q') && ((M == M') && sameB xs K ys K')
set_option maxHeartbeats 2000000 in
theorem cond_same (q M : Int) (A : Option Addr) (n c : Nat) (K : Int) (xs : List Int) (q' M' : Int) (A' : Option Addr) (n' c' : Nat) (K' : Int) (ys : List Int) (w : World) (hI : IntsAt w A n xs) (hI' : IntsAt w A' n' ys) :
    Calls Tryz.prog 96 #[condV q M A n c K, condV q' M' A' n' c' K'] w fun e w' => e = .returned (.bool (sameC q M xs K q' M' ys K')) ∧ Below w.heap.size w w' := by
  have b1 := below_alloc w (.cells #[.int .i64 q, .int .i64 M, .slice A n c, .int .i64 K] 56)
  have hB := below_step b1 (below_alloc _ (.cells #[.int .i64 q', .int .i64 M', .slice A' n' c', .int .i64 K'] 56))
  have h1 := hI.step hB
  have h2 := hI'.step hB
  have B1 := (CBox.new w q M A n c K).alloc (.cells #[.int .i64 q', .int .i64 M', .slice A' n' c', .int .i64 K'] 56)
  have B2 := CBox.new (w.alloc (.cells #[.int .i64 q, .int .i64 M, .slice A n c, .int .i64 K] 56)) q' M' A' n' c' K'
  rw [World.size_alloc] at B2
  have c0 := B1.c0
  have c1 := B1.c1
  have c2 := B1.c2
  have c3 := B1.c3
  have d0 := B2.c0
  have d1 := B2.c1
  have d2 := B2.c2
  have d3 := B2.c3
  obtain ⟨v, hv⟩ : ∃ v, sameB xs K ys K' = v := ⟨_, rfl⟩
  have HV := Lib.hid hv
  clear hI hI' b1
  by_cases hq : q = q'
  · subst hq
    by_cases hm : M = M'
    · subst hm
      have e : sameC q M xs K q M ys K' = v := by unfold sameC; rw [hv]; simp
      rw [e]
      clear e hv
      go_enter Tryz.func96, Tryz.ntmps96
      go_wp2_with (go_at_call 124; refine (ref_same _ _ _ _ xs _ _ _ _ ys _ h1 h2).mono ?_; rintro e w1 ⟨rfl, hb⟩; rw [HV.out]; replace hB := below_step hB hb)
      go_ret
      exact ⟨ret_bool (by simp), hB⟩
    · have e : sameC q M xs K q M' ys K' = false := by unfold sameC; simp [hm]
      rw [e]
      have g : (M == M') = false := by simpa using hm
      clear e hv
      go_enter Tryz.func96, Tryz.ntmps96
      go_wp2
      go_ret
      exact ⟨ret_bool (by simp), hB⟩
  · have e : sameC q M xs K q' M' ys K' = false := by unfold sameC; simp [hq]
    rw [e]
    have g : (q == q') = false := by simpa using hq
    clear e hv
    go_enter Tryz.func96, Tryz.ntmps96
    go_wp2
    go_ret
    exact ⟨ret_bool (by simp), hB⟩
end Go.Proofs.YtkgnlloioaobiaaGreat
namespace Go.Proofs.YtkgnlloioaobiaaGreat
open Go.RowKit
def sameL {α : Type} (f : α → α → Bool) : List α → List α → Bool
  | [], [] => true
  | a :: l, b :: l' => f a b && sameL f l l'
  | _, _ => false
theorem sameL_len {α : Type} {f : α → α → Bool} : ∀ {l l' : List α}, l.length ≠ l'.length → sameL f l l' = false
  | [], [], h => absurd rfl h
  | [], _ :: _, _ => rfl
  | _ :: _, [], _ => rfl
  | a :: l, b :: l', h => by
    have := sameL_len (f := f) (l := l) (l' := l') fun e => h (by simp [e])
    simp [sameL, this]
theorem sameL_no {α : Type} {f : α → α → Bool} : ∀ {l l' : List α} {i : Nat} {a b : α}, l[i]? = some a → l'[i]? = some b → f a b = false → sameL f l l' = false
  | [], _, _, _, _, h, _, _ => by simp at h
  | _ :: _, [], _, _, _, _, h, _ => by simp at h
  | a :: l, b :: l', 0, x, y, h, h', hf => by
    simp only [List.getElem?_cons_zero, Option.some.injEq] at h h'
    subst h h'
    simp [sameL, hf]
  | a :: l, b :: l', i + 1, x, y, h, h', hf => by
    simp only [List.getElem?_cons_succ] at h h'
    simp [sameL, sameL_no h h' hf]
theorem sameL_yes {α : Type} {f : α → α → Bool} : ∀ {l l' : List α}, l.length = l'.length → (∀ i a b, i < l.length → l[i]? = some a → l'[i]? = some b → f a b = true) → sameL f l l' = true
  | [], [], _, _ => rfl
  | [], _ :: _, h, _ => by simp at h
  | _ :: _, [], h, _ => by simp at h
  | a :: l, b :: l', h, hf => by
    have h0 := hf 0 a b (by simp) rfl rfl
    have h1 := sameL_yes (f := f) (l := l) (l' := l') (by simpa using h) fun i x y hi hx hy => hf (i + 1) x y (by simp; omega) (by simpa using hx) (by simpa using hy)
    simp [sameL, h0, h1]
def CEl.same (e e' : CEl) : Bool := sameC e.q e.M e.xs e.K e'.q e'.M e'.xs e'.K
def sameP (l l' : List CEl) : Bool := sameL CEl.same l l'
def sameS (D : Int) (ps : List PEl) (D' : Int) (ps' : List PEl) : Bool := (D == D') && sameL (fun p p' => sameP p.els p'.els) ps ps'
set_option maxHeartbeats 4000000 in
theorem same_piece (A : Option Addr) (m c : Nat) (els : List CEl) (A' : Option Addr) (m' c' : Nat) (els' : List CEl) (w : World) (C0 : CondsAt w A m els) (C1 : CondsAt w A' m' els') :
    Calls Tryz.prog 72 #[.slice A m c, .slice A' m' c'] w fun e w' => e = .returned (.bool (sameP els els')) ∧ Below w.heap.size w w' := by
  have hsm := C0.small
  have hsm' := C1.small
  by_cases hmm : m = m'
  · subst hmm
    have HL := Lib.hid C0.len
    have HL' := Lib.hid C1.len
    obtain ⟨er, her⟩ : ∃ er, sameP els els' = er := ⟨_, rfl⟩
    rw [her]
    have HE := Lib.hid her
    clear her
    go_enter Tryz.func72, Tryz.ntmps72
    go_wp2
    go_loopw [13] (fun v wr => ∃ i : Nat, i ≤ m ∧ v = .int .i64 i ∧ (∀ j x y, j < i → els[j]? = some x → els'[j]? = some y → x.same y = true) ∧ Below w.heap.size w wr) (fun v _ => m - (intOf v).toNat)
    case atStart => exact ⟨0, Nat.zero_le _, rfl, (fun j x y h => absurd h (by omega)), Below.refl _ _⟩
    case round =>
      obtain ⟨i, hi, rfl, hgood, hbr⟩ := hrel
      have HG := Lib.hid hgood
      clear hgood
      by_cases hlt : i < m
      · obtain ⟨b, off, e, hA2, hblt, hej, hmem, hcs, hin⟩ := (C0.step hbr).at hlt
        obtain ⟨b', off', e', hA3, hblt', hej', hmem', hcs', hin'⟩ := (C1.step hbr).at hlt
        obtain ⟨eq, eM, eA, en, ec, eK, exs⟩ := e
        obtain ⟨eq', eM', eA', en', ec', eK', exs'⟩ := e'
        obtain ⟨x0, x1, x2, x3⟩ := hcs
        obtain ⟨y0, y1, y2, y3⟩ := hcs'
        simp only at x0 x1 x2 x3 y0 y1 y2 y3 hin hin'
        have HEJ := Lib.hid hej
        have HEJ' := Lib.hid hej'
        subst hA2 hA3
        have hq1 : (i : Int) < m := by omega
        replace hin := hin.step (Below.refl _ wr).drew
        replace hin' := hin'.step (Below.refl _ wr).drew
        have hbd := hbr.drew
        clear hej hej' hmem hmem' hbr
        cases hv : sameC eq eM exs eK eq' eM' exs' eK'
        · have HV := Lib.hid hv
          have HR := Lib.hid (show er = false by rw [← HE.out]; exact sameL_no HEJ.out HEJ'.out hv)
          clear hv
          go_wp2
          go_region_held3 (fun W => W.cell? ⟨b, off + i * 4, none⟩ = some (.int .i64 eq) ∧ W.cell? ⟨b, off + i * 4 + 1, none⟩ = some (.int .i64 eM) ∧ W.cell? ⟨b, off + i * 4 + 2, none⟩ = some (.slice eA en ec) ∧ W.cell? ⟨b, off + i * 4 + 3, none⟩ = some (.int .i64 eK) ∧ W.cell? ⟨b', off' + i * 4, none⟩ = some (.int .i64 eq') ∧ W.cell? ⟨b', off' + i * 4 + 1, none⟩ = some (.int .i64 eM') ∧ W.cell? ⟨b', off' + i * 4 + 2, none⟩ = some (.slice eA' en' ec') ∧ W.cell? ⟨b', off' + i * 4 + 3, none⟩ = some (.int .i64 eK')) (first | with_reducible exact ⟨x0, x1, x2, x3, y0, y1, y2, y3⟩ | with_reducible exact ⟨z0, z1, z2, z3, z4, z5, z6, z7⟩ | go_keep) (first | (go_at_call 96; refine (cond_same _ _ _ _ _ _ exs _ _ _ _ _ _ exs' _ hin hin').mono ?_; rintro e w4 ⟨rfl, hb⟩; rw [HV.out]; have hbe := (Below.refl wr.heap.size wr).drew.trans hb; have z0 := (hbe.cell (p := ⟨b, off + i * 4, none⟩) hblt).trans x0; have z1 := (hbe.cell (p := ⟨b, off + i * 4 + 1, none⟩) hblt).trans x1; have z2 := (hbe.cell (p := ⟨b, off + i * 4 + 2, none⟩) hblt).trans x2; have z3 := (hbe.cell (p := ⟨b, off + i * 4 + 3, none⟩) hblt).trans x3; have z4 := (hbe.cell (p := ⟨b', off' + i * 4, none⟩) hblt').trans y0; have z5 := (hbe.cell (p := ⟨b', off' + i * 4 + 1, none⟩) hblt').trans y1; have z6 := (hbe.cell (p := ⟨b', off' + i * 4 + 2, none⟩) hblt').trans y2; have z7 := (hbe.cell (p := ⟨b', off' + i * 4 + 3, none⟩) hblt').trans y3; replace hbd := hbd.trans (hb.mono hbd.size)))
          all_goals
            go_wp2
            go_ret
            exact ⟨ret_bool HR.out.symm, hbd⟩
        · have HV := Lib.hid hv
          clear hv
          go_wp2
          go_region_held3 (fun W => W.cell? ⟨b, off + i * 4, none⟩ = some (.int .i64 eq) ∧ W.cell? ⟨b, off + i * 4 + 1, none⟩ = some (.int .i64 eM) ∧ W.cell? ⟨b, off + i * 4 + 2, none⟩ = some (.slice eA en ec) ∧ W.cell? ⟨b, off + i * 4 + 3, none⟩ = some (.int .i64 eK) ∧ W.cell? ⟨b', off' + i * 4, none⟩ = some (.int .i64 eq') ∧ W.cell? ⟨b', off' + i * 4 + 1, none⟩ = some (.int .i64 eM') ∧ W.cell? ⟨b', off' + i * 4 + 2, none⟩ = some (.slice eA' en' ec') ∧ W.cell? ⟨b', off' + i * 4 + 3, none⟩ = some (.int .i64 eK')) (first | with_reducible exact ⟨x0, x1, x2, x3, y0, y1, y2, y3⟩ | with_reducible exact ⟨z0, z1, z2, z3, z4, z5, z6, z7⟩ | go_keep) (first | (go_at_call 96; refine (cond_same _ _ _ _ _ _ exs _ _ _ _ _ _ exs' _ hin hin').mono ?_; rintro e w4 ⟨rfl, hb⟩; rw [HV.out]; have hbe := (Below.refl wr.heap.size wr).drew.trans hb; have z0 := (hbe.cell (p := ⟨b, off + i * 4, none⟩) hblt).trans x0; have z1 := (hbe.cell (p := ⟨b, off + i * 4 + 1, none⟩) hblt).trans x1; have z2 := (hbe.cell (p := ⟨b, off + i * 4 + 2, none⟩) hblt).trans x2; have z3 := (hbe.cell (p := ⟨b, off + i * 4 + 3, none⟩) hblt).trans x3; have z4 := (hbe.cell (p := ⟨b', off' + i * 4, none⟩) hblt').trans y0; have z5 := (hbe.cell (p := ⟨b', off' + i * 4 + 1, none⟩) hblt').trans y1; have z6 := (hbe.cell (p := ⟨b', off' + i * 4 + 2, none⟩) hblt').trans y2; have z7 := (hbe.cell (p := ⟨b', off' + i * 4 + 3, none⟩) hblt').trans y3; replace hbd := hbd.trans (hb.mono hbd.size)))
          all_goals
            go_wp2
            go_roundw
            case rel => exact ⟨i + 1, by omega, by go_num, (fun j x y hj hjx hjy => by
              rcases Nat.lt_or_eq_of_le (Nat.le_of_lt_succ hj) with h | rfl
              · exact HG.out j x y h hjx hjy
              · rw [HEJ.out] at hjx; rw [HEJ'.out] at hjy; cases hjx; cases hjy; exact HV.out), hbd⟩
            case measure => simp [intOf]; omega
      · have hge : ¬ ((i : Int) < m) := by omega
        have HR := Lib.hid (show er = true by rw [← HE.out]; exact sameL_yes (by rw [HL.out, HL'.out]) fun j x y hj => HG.out j x y (by have := HL.out; omega))
        go_wp2
        go_ret
        exact ⟨ret_bool HR.out.symm, hbr⟩
  · have HR := Lib.hid (show sameP els els' = false from sameL_len (by rw [C0.len, C1.len]; exact hmm))
    have q1 : ((m : Int) != (m' : Int)) = true := by simpa using fun e => hmm (by omega)
    have q2 : ((m : Int) == (m' : Int)) = false := by simpa using fun e => hmm (by omega)
    clear C0 C1 hmm
    go_enter Tryz.func72, Tryz.ntmps72
    go_wp2
    go_ret
    exact ⟨ret_bool HR.out.symm, Below.refl _ _⟩
set_option maxHeartbeats 4000000 in
theorem same_set (D : Int) (A : Option Addr) (n c : Nat) (ps : List PEl) (D' : Int) (A' : Option Addr) (n' c' : Nat) (ps' : List PEl) (w : World) (h : PiecesAt w A n ps) (h' : PiecesAt w A' n' ps') :
    Calls Tryz.prog 41 #[setV D A n c, setV D' A' n' c'] w fun e w' => e = .returned (.bool (sameS D ps D' ps')) ∧ Below w.heap.size w w' := by
  have b1 := below_alloc w (.cells #[.int .i64 D, .slice A n c] 24)
  have hB := below_step b1 (below_alloc _ (.cells #[.int .i64 D', .slice A' n' c'] 24))
  have P0 := h.step hB
  have P1 := h'.step hB
  have B1 := (SetBox.new w D A n c).alloc (.cells #[.int .i64 D', .slice A' n' c'] 24)
  have B2 := SetBox.new (w.alloc (.cells #[.int .i64 D, .slice A n c] 24)) D' A' n' c'
  rw [World.size_alloc] at B2
  have c0 := B1.c0
  have c1 := B1.c1
  have d0 := B2.c0
  have d1 := B2.c1
  have hl := h.len
  have hl' := h'.len
  have hsm := h.small
  have hsm' := h'.small
  clear b1 h h'
  by_cases hD : D = D'
  · by_cases hnn : n = n'
    · subst hD hnn
      have HL := Lib.hid hl
      have HL' := Lib.hid hl'
      obtain ⟨er, her⟩ : ∃ er, sameS D ps D ps' = er := ⟨_, rfl⟩
      rw [her]
      have HE := Lib.hid (show sameL (fun p p' => sameP p.els p'.els) ps ps' = er by rw [← her]; simp [sameS])
      clear her hl hl'
      go_enter Tryz.func41, Tryz.ntmps41
      go_wp2
      generalize hw0 : (w.alloc (.cells #[.int .i64 D, .slice A n c] 24)).alloc (.cells #[.int .i64 D, .slice A' n c'] 24) = w0 at *
      clear hw0 c0 c1 d0 d1
      go_loopw [23] (fun v wr => ∃ i : Nat, i ≤ n ∧ v = .int .i64 i ∧ (∀ j x y, j < i → ps[j]? = some x → ps'[j]? = some y → sameP x.els y.els = true) ∧ Below w0.heap.size w0 wr) (fun v _ => n - (intOf v).toNat)
      case atStart => exact ⟨0, Nat.zero_le _, rfl, (fun j x y h => absurd h (by omega)), Below.refl _ _⟩
      case round =>
        obtain ⟨i, hi, rfl, hgood, hbr⟩ := hrel
        have HG := Lib.hid hgood
        clear hgood
        by_cases hlt : i < n
        · obtain ⟨b, off, p, hA2, hblt, hpj, hmem, x2, hin⟩ := (P0.step hbr).at hlt
          obtain ⟨b', off', p', hA3, hblt', hpj', hmem', x3, hin'⟩ := (P1.step hbr).at hlt
          obtain ⟨pA, pn, pc, pels⟩ := p
          obtain ⟨pA', pn', pc', pels'⟩ := p'
          simp only at x2 x3 hin hin'
          have HPJ := Lib.hid hpj
          have HPJ' := Lib.hid hpj'
          subst hA2 hA3
          have hq1 : (i : Int) < n := by omega
          replace hin := hin.step (Below.refl _ wr).drew
          replace hin' := hin'.step (Below.refl _ wr).drew
          have B3 := B1.step hbr
          have B4 := B2.step hbr
          have x0 := B3.c1
          have x1 := B4.c1
          have hbd := hbr.drew
          clear hpj hpj' hmem hmem' hbr
          cases hv : sameP pels pels'
          · have HV := Lib.hid hv
            have HR := Lib.hid (show er = false by rw [← HE.out]; exact sameL_no HPJ.out HPJ'.out hv)
            clear hv
            go_wp2
            go_region_held3 (fun W => W.cell? ⟨w.heap.size, 1, none⟩ = some (.slice (some ⟨b, off, none⟩) n c) ∧ W.cell? ⟨w.heap.size + 1, 1, none⟩ = some (.slice (some ⟨b', off', none⟩) n c') ∧ W.cell? ⟨b, off + i, none⟩ = some (.slice pA pn pc) ∧ W.cell? ⟨b', off' + i, none⟩ = some (.slice pA' pn' pc')) (first | with_reducible exact ⟨x0, x1, x2, x3⟩ | with_reducible exact ⟨z0, z1, z2, z3⟩ | go_keep) (first | (go_at_call 72; refine (same_piece _ _ _ pels _ _ _ pels' _ hin hin').mono ?_; rintro e w4 ⟨rfl, hb⟩; rw [HV.out]; have hbe := (Below.refl wr.heap.size wr).drew.trans hb; have z0 := (hbe.cell (p := ⟨w.heap.size, 1, none⟩) B3.lt).trans x0; have z1 := (hbe.cell (p := ⟨w.heap.size + 1, 1, none⟩) B4.lt).trans x1; have z2 := (hbe.cell (p := ⟨b, off + i, none⟩) hblt).trans x2; have z3 := (hbe.cell (p := ⟨b', off' + i, none⟩) hblt').trans x3; replace hbd := hbd.trans (hb.mono hbd.size)))
            all_goals
              go_wp2
              go_ret
              exact ⟨ret_bool HR.out.symm, below_step hB hbd⟩
          · have HV := Lib.hid hv
            clear hv
            go_wp2
            go_region_held3 (fun W => W.cell? ⟨w.heap.size, 1, none⟩ = some (.slice (some ⟨b, off, none⟩) n c) ∧ W.cell? ⟨w.heap.size + 1, 1, none⟩ = some (.slice (some ⟨b', off', none⟩) n c') ∧ W.cell? ⟨b, off + i, none⟩ = some (.slice pA pn pc) ∧ W.cell? ⟨b', off' + i, none⟩ = some (.slice pA' pn' pc')) (first | with_reducible exact ⟨x0, x1, x2, x3⟩ | with_reducible exact ⟨z0, z1, z2, z3⟩ | go_keep) (first | (go_at_call 72; refine (same_piece _ _ _ pels _ _ _ pels' _ hin hin').mono ?_; rintro e w4 ⟨rfl, hb⟩; rw [HV.out]; have hbe := (Below.refl wr.heap.size wr).drew.trans hb; have z0 := (hbe.cell (p := ⟨w.heap.size, 1, none⟩) B3.lt).trans x0; have z1 := (hbe.cell (p := ⟨w.heap.size + 1, 1, none⟩) B4.lt).trans x1; have z2 := (hbe.cell (p := ⟨b, off + i, none⟩) hblt).trans x2; have z3 := (hbe.cell (p := ⟨b', off' + i, none⟩) hblt').trans x3; replace hbd := hbd.trans (hb.mono hbd.size)))
            all_goals
              go_wp2
              go_roundw
              case rel => exact ⟨i + 1, by omega, by go_num, (fun j x y hj hjx hjy => by
                rcases Nat.lt_or_eq_of_le (Nat.le_of_lt_succ hj) with h | rfl
                · exact HG.out j x y h hjx hjy
                · rw [HPJ.out] at hjx; rw [HPJ'.out] at hjy; cases hjx; cases hjy; exact HV.out), hbd⟩
              case measure => simp [intOf]; omega
        · have hge : ¬ ((i : Int) < n) := by omega
          have HR := Lib.hid (show er = true by rw [← HE.out]; exact sameL_yes (by rw [HL.out, HL'.out]) fun j x y hj => HG.out j x y (by have := HL.out; omega))
          go_wp2
          go_ret
          exact ⟨ret_bool HR.out.symm, below_step hB hbr⟩
    · have HR := Lib.hid (show sameS D ps D' ps' = false by unfold sameS; rw [sameL_len (by rw [hl, hl']; exact hnn), Bool.and_false])
      have q1 : ((n : Int) != (n' : Int)) = true := by simpa using fun e => hnn (by omega)
      have q2 : ((n : Int) == (n' : Int)) = false := by simpa using fun e => hnn (by omega)
      subst hD
      clear hl hl' hnn
      go_enter Tryz.func41, Tryz.ntmps41
      go_wp2
      go_ret
      exact ⟨ret_bool HR.out.symm, hB⟩
  · have HR := Lib.hid (show sameS D ps D' ps' = false by unfold sameS; rw [beq_eq_false_iff_ne.2 hD, Bool.false_and])
    have q1 : (D != D') = true := by simpa using hD
    have q2 : (D == D') = false := by simpa using hD
    clear hl hl' hD
    go_enter Tryz.func41, Tryz.ntmps41
    go_wp2
    go_ret
    exact ⟨ret_bool HR.out.symm, hB⟩
end Go.Proofs.YtkgnlloioaobiaaGreat
namespace Go.Proofs.YtkgnlloioaobiaaGreat
open Go.RowKit
def CEl.data (e : CEl) : Int × Int × List Int × Int := (e.q, e.M, e.xs, e.K)
def dataS (ps : List PEl) : List (List (Int × Int × List Int × Int)) := ps.map fun p => p.els.map CEl.data
theorem same_data {e e' : CEl} (h : e.data = e'.data) : e.same e' = true := by
  obtain ⟨q, M, A, n, c, K, xs⟩ := e
  obtain ⟨q', M', A', n', c', K', xs'⟩ := e'
  simp only [CEl.data, Prod.mk.injEq] at h
  obtain ⟨rfl, rfl, rfl, rfl⟩ := h
  show sameC q M xs K q M xs K = true
  unfold sameC
  simp [sameB_self]
theorem sameP_data : ∀ {l l' : List CEl}, l.map CEl.data = l'.map CEl.data → sameP l l' = true
  | [], [], _ => rfl
  | [], _ :: _, h => by simp at h
  | _ :: _, [], h => by simp at h
  | a :: l, b :: l', h => by
    simp only [List.map_cons, List.cons.injEq] at h
    show (a.same b && sameP l l') = true
    rw [same_data h.1, sameP_data h.2]; rfl
theorem sameL_data : ∀ {l l' : List PEl}, dataS l = dataS l' → sameL (fun p p' => sameP p.els p'.els) l l' = true
  | [], [], _ => rfl
  | [], _ :: _, h => by simp [dataS] at h
  | _ :: _, [], h => by simp [dataS] at h
  | a :: l, b :: l', h => by
    simp only [dataS, List.map_cons, List.cons.injEq] at h
    show (sameP a.els b.els && sameL _ l l') = true
    rw [sameP_data h.1, sameL_data h.2]; rfl
theorem sameS_data {D : Int} {l l' : List PEl} (h : dataS l = dataS l') : sameS D l D l' = true := by
  unfold sameS; rw [sameL_data h]; simp
theorem sis_same (D : Int) (A : Option Addr) (n c : Nat) (ps : List PEl) (A' : Option Addr) (n' c' : Nat) (ps' : List PEl) (e : Int) (w : World) (h : PiecesAt w A n ps) (h' : PiecesAt w A' n' ps') (hd : dataS ps = dataS ps') :
    Calls Tryz.prog 13 #[setV D A n c, .int .i64 e, setV D A' n' c', .int .i64 e] w fun e w' => e = .returned (.bool true) ∧ Below w.heap.size w w' := by
  have hB := below_step (below_alloc w (.cells #[.int .i64 D, .slice A n c] 24)) (below_alloc _ (.cells #[.int .i64 D, .slice A' n' c'] 24))
  have h1 := h.step hB
  have h2 := h'.step hB
  have HD := Lib.hid (sameS_data (D := D) hd)
  clear h h' hd
  go_enter Tryz.func13, Tryz.ntmps13
  go_wp2_with (go_at_call 41; refine (same_set _ _ _ _ ps _ _ _ _ ps' _ h1 h2).mono ?_; rintro e w3 ⟨rfl, hb3⟩; rw [HD.out]; replace hB := below_step hB hb3)
  go_ret
  exact ⟨rfl, hB⟩
end Go.Proofs.YtkgnlloioaobiaaGreat
namespace Go.Proofs.YtkgnlloioaobiaaGreat
open Go.RowKit
theorem conds_row {w : World} {g : Nat} {els : List CEl} (hg : w.heap[g]? = some (.cells (ccells els).toArray 56 (0, 0))) (hi : ∀ e ∈ els, IntsAt w e.A e.n e.xs) (hl : els.length ≤ 1000) : CondsAt w (some ⟨g, 0, none⟩) els.length els := by
  have key : ∀ (k : Nat) (v : Value), (ccells els)[k]? = some v → w.cell? ⟨g, k, none⟩ = some v := fun k v hv => by rw [cell_of_row w g k _ _ (0, 0) hg]; simpa using hv
  refine ⟨rfl, by omega, fun _ => ⟨g, 0, rfl, (Array.getElem?_eq_some_iff.1 hg).1, fun j e he => ?_⟩, hi⟩
  obtain ⟨h0, h1, h2, h3⟩ := ccells_at els j e he
  rw [Nat.zero_add]
  exact ⟨key _ _ h0, key _ _ h1, key _ _ h2, key _ _ h3⟩
theorem pieces_row {w : World} {g : Nat} {ps : List PEl} (hg : w.heap[g]? = some (.cells (ps.map PEl.v).toArray 34 (0, 0))) (hc : ∀ p ∈ ps, CondsAt w p.A p.n p.els) (hl : ps.length ≤ 1000) : PiecesAt w (some ⟨g, 0, none⟩) ps.length ps := by
  refine ⟨rfl, by omega, fun _ => ⟨g, 0, rfl, (Array.getElem?_eq_some_iff.1 hg).1, fun j p hp => ?_⟩, hc⟩
  rw [Nat.zero_add, cell_of_row w g j _ _ (0, 0) hg]
  simp [hp, PEl.v]
def atE (A : Option Addr) (a k : Int) : CEl := ⟨0, 0, A, 1, 1, k, [a]⟩
theorem conds_two {w : World} {A B : Option Addr} {a b k l : Int} (hA : IntsAt w A 1 [a]) (hB : IntsAt w B 1 [b]) :
    CondsAt (w.alloc (.cells #[.int .i64 0, .int .i64 0, .slice A 1 1, .int .i64 k, .int .i64 0, .int .i64 0, .slice B 1 1, .int .i64 l] 56)) (some ⟨w.heap.size, 0, none⟩) 2 [atE A a k, atE B b l] := by
  have hb := below_alloc w (.cells #[.int .i64 0, .int .i64 0, .slice A 1 1, .int .i64 k, .int .i64 0, .int .i64 0, .slice B 1 1, .int .i64 l] 56)
  refine conds_row (els := [atE A a k, atE B b l]) (heap_alloc_new w _) (fun e he => ?_) (by simp)
  rcases List.mem_cons.1 he with rfl | he
  · exact hA.step hb
  · rw [List.mem_singleton.1 he]; exact hB.step hb
theorem pieces_single {w : World} {p : PEl} (h : CondsAt w p.A p.n p.els) : PiecesAt (w.alloc (.cells #[.slice p.A p.n p.c] 34)) (some ⟨w.heap.size, 0, none⟩) 1 [p] := by
  refine pieces_row (ps := [p]) (heap_alloc_new w _) (fun q hq => ?_) (by simp)
  rw [List.mem_singleton.1 hq]
  exact h.step (below_alloc w _)
theorem pieces_two {w : World} {p q : PEl} (h : CondsAt w p.A p.n p.els) (h' : CondsAt w q.A q.n q.els) : PiecesAt (w.alloc (.cells #[.slice p.A p.n p.c, .slice q.A q.n q.c] 34)) (some ⟨w.heap.size, 0, none⟩) 2 [p, q] := by
  refine pieces_row (ps := [p, q]) (heap_alloc_new w _) (fun x hx => ?_) (by simp)
  rcases List.mem_cons.1 hx with rfl | hx
  · exact h.step (below_alloc w _)
  · rw [List.mem_singleton.1 hx]; exact h'.step (below_alloc w _)
theorem one_row (w : World) (a : Int) (ha : -9223372036854775808 ≤ a ∧ a ≤ 9223372036854775807) :
    IntsAt (w.alloc (.cells #[.int .i64 a] 3)) (some ⟨w.heap.size, 0, none⟩) 1 [a] :=
  (OwnRow.new w [a] 1 rfl).ints (by omega) (fun x hx => by rw [List.mem_singleton] at hx; subst hx; exact ha)
theorem law_at (a k : Int) (ha : -9223372036854775808 ≤ a ∧ a ≤ 9223372036854775807) (w : World) : Calls Tryz.prog 42 #[.int .i64 a, .int .i64 k] w fun e w' => ∃ A, e = .returned (condV 0 0 A 1 1 k) ∧ IntsAt w' A 1 [a] ∧ Below w.heap.size w w' := by
  have I1 : ∀ x : Int, IntsAt ((w.alloc (.cells #[.int .i64 0, .int .i64 0, .slice (some ⟨w.heap.size + 1, 0, none⟩) 1 1, .int .i64 x] 56)).alloc (.cells #[.int .i64 a] 3)) (some ⟨w.heap.size + 1, 0, none⟩) 1 [a] := fun x => by
    have := one_row (w.alloc (.cells #[.int .i64 0, .int .i64 0, .slice (some ⟨w.heap.size + 1, 0, none⟩) 1 1, .int .i64 x] 56)) a ha
    rw [World.size_alloc] at this
    exact this
  have hB := below_step (below_alloc w (.cells #[.int .i64 0, .int .i64 0, .slice (some ⟨w.heap.size + 1, 0, none⟩) 1 1, .int .i64 k] 56)) (below_alloc _ (.cells #[.int .i64 a] 3))
  go_enter Tryz.func42, Tryz.ntmps42
  go_wp2
  refine bodyPost_ret (v := condV 0 0 (some ⟨w.heap.size + 1, 0, none⟩) 1 1 k) (by simp [results, Tryz.results42, go_sem]) rfl ?_
  exact ⟨_, rfl, I1 k, hB⟩
theorem data_dat {l l' : List PEl} (h : l.map PEl.dat = l'.map PEl.dat) : dataS l = dataS l' := by
  have key : ∀ l : List PEl, dataS l = (l.map PEl.dat).map fun ds => ds.map fun d => (d.q, d.M, d.xs, d.K) := fun l => by
    unfold dataS
    rw [List.map_map]
    refine List.map_congr_left fun p _ => ?_
    simp [PEl.dat, CEl.data, CEl.d]
  rw [key, key, h]
end Go.Proofs.YtkgnlloioaobiaaGreat
namespace Go.Proofs.YtkgnlloioaobiaaGreat
open Go.RowKit
def awM : List (List CD) := [[⟨0, 0, [-1], 5⟩, ⟨0, 0, [1], -4⟩], [⟨0, 0, [-1], 1⟩, ⟨0, 0, [1], 0⟩]]
def awN : List (List CD) := [[⟨1, 0, [1], -3⟩]]
theorem aw_minus_call {w : World} {B1 B2 g1 g2 A1 A2 A3 A4 : Option Addr} (Q1 : PiecesAt w B1 1 [⟨g1, 2, 2, [atE A1 1 0, atE A2 (-1) 5]⟩]) (Q3 : PiecesAt w B2 1 [⟨g2, 2, 2, [atE A3 1 (-2), atE A4 (-1) 3]⟩]) :
    Calls Tryz.prog 18 #[setV 1 B1 1 1, setV 1 B2 1 1] w fun e w' => GatherRet 1 w e w' 1 (0, awM) := by
  have h := set_minus 1 B1 1 1 _ B2 1 1 _ w Q1 Q3 (by kernel_rfl) (by kernel_rfl)
  have e : minusD (1 : Int).toNat (List.map PEl.dat [⟨g1, 2, 2, [atE A1 1 0, atE A2 (-1) 5]⟩]) (List.map PEl.dat [⟨g2, 2, 2, [atE A3 1 (-2), atE A4 (-1) 3]⟩]) = (0, awM) := aw_minus
  rw [e] at h
  exact h
theorem aw_norm_call {w : World} {B1 g1 A1 A2 : Option Addr} (Q1 : PiecesAt w B1 1 [⟨g1, 2, 2, [atE A1 1 (-3), atE A2 (-1) 3]⟩]) :
    Calls Tryz.prog 11 #[setV 1 B1 1 1] w fun e w' => GatherRet 1 w e w' 1 (0, awN) := by
  have h := set_normal 1 B1 1 1 _ w Q1 (by kernel_rfl)
  have e : gatherD (1 : Int).toNat (List.map PEl.dat [⟨g1, 2, 2, [atE A1 1 (-3), atE A2 (-1) 3]⟩]) = (0, awN) := aw_three
  rw [e] at h
  exact h
theorem aw_core {w : World} {A : Option Addr} {n c : Nat} {ps : List PEl} {A' : Option Addr} {n' c' : Nat} {ps' : List PEl} (h : PiecesAt w A n ps) (h' : PiecesAt w A' n' ps') (hd : ps.map PEl.dat = ps'.map PEl.dat) :
    Calls Tryz.prog 41 #[setV 1 A n c, setV 1 A' n' c'] w fun e w' => e = .returned (.bool true) ∧ Below w.heap.size w w' := by
  have := same_set 1 A n c ps 1 A' n' c' ps' w h h'
  rw [sameS_data (data_dat hd)] at this
  exact this
theorem aw_ga {w : World} {g : Nat} {A7 A8 A9 A10 : Option Addr} (R : w.heap[g]? = some (.cells (ccells [atE A7 (-1) 5, atE A8 1 (-4)]).toArray 56 (0, 0))) (I7 : IntsAt w A7 1 [-1]) (I8 : IntsAt w A8 1 [1]) (I9 : IntsAt w A9 1 [-1]) (I10 : IntsAt w A10 1 [1]) :
    PiecesAt ((w.alloc (.cells #[.int .i64 0, .int .i64 0, .slice A9 1 1, .int .i64 1, .int .i64 0, .int .i64 0, .slice A10 1 1, .int .i64 0] 56)).alloc (.cells #[.slice (some ⟨g, 0, none⟩) 2 2, .slice (some ⟨w.heap.size, 0, none⟩) 2 2] 34)) (some ⟨w.heap.size + 1, 0, none⟩) 2 [⟨some ⟨g, 0, none⟩, 2, 2, [atE A7 (-1) 5, atE A8 1 (-4)]⟩, ⟨some ⟨w.heap.size, 0, none⟩, 2, 2, [atE A9 (-1) 1, atE A10 1 0]⟩] := by
  have C2 := conds_two (k := 1) (l := 0) I9 I10
  have C1 : CondsAt w (some ⟨g, 0, none⟩) 2 [atE A7 (-1) 5, atE A8 1 (-4)] := conds_row (els := [atE A7 (-1) 5, atE A8 1 (-4)]) R (fun e he => by
    rcases List.mem_cons.1 he with rfl | he
    · exact I7
    · rw [List.mem_singleton.1 he]; exact I8) (by simp)
  have h := pieces_two (p := ⟨some ⟨g, 0, none⟩, 2, 2, [atE A7 (-1) 5, atE A8 1 (-4)]⟩) (q := ⟨some ⟨w.heap.size, 0, none⟩, 2, 2, [atE A9 (-1) 1, atE A10 1 0]⟩) (C1.step (below_alloc w (.cells #[.int .i64 0, .int .i64 0, .slice A9 1 1, .int .i64 1, .int .i64 0, .int .i64 0, .slice A10 1 1, .int .i64 0] 56))) C2
  rw [World.size_alloc] at h
  exact h
theorem aw_gb {w : World} {A7 A8 A9 A10 : Option Addr} (I7 : IntsAt w A7 1 [-1]) (I8 : IntsAt w A8 1 [1]) (I9 : IntsAt w A9 1 [-1]) (I10 : IntsAt w A10 1 [1]) :
    PiecesAt (((w.alloc (.cells #[.int .i64 0, .int .i64 0, .slice A7 1 1, .int .i64 5, .int .i64 0, .int .i64 0, .slice A8 1 1, .int .i64 (-4)] 56)).alloc (.cells #[.int .i64 0, .int .i64 0, .slice A9 1 1, .int .i64 1, .int .i64 0, .int .i64 0, .slice A10 1 1, .int .i64 0] 56)).alloc (.cells #[.slice (some ⟨w.heap.size, 0, none⟩) 2 2, .slice (some ⟨w.heap.size + 1, 0, none⟩) 2 2] 34)) (some ⟨w.heap.size + 1 + 1, 0, none⟩) 2 [⟨some ⟨w.heap.size, 0, none⟩, 2, 2, [atE A7 (-1) 5, atE A8 1 (-4)]⟩, ⟨some ⟨w.heap.size + 1, 0, none⟩, 2, 2, [atE A9 (-1) 1, atE A10 1 0]⟩] := by
  have b := below_alloc w (.cells #[.int .i64 0, .int .i64 0, .slice A7 1 1, .int .i64 5, .int .i64 0, .int .i64 0, .slice A8 1 1, .int .i64 (-4)] 56)
  have h := aw_ga (g := w.heap.size) (heap_alloc_new w (.cells #[.int .i64 0, .int .i64 0, .slice A7 1 1, .int .i64 5, .int .i64 0, .int .i64 0, .slice A8 1 1, .int .i64 (-4)] 56)) (I7.step b) (I8.step b) (I9.step b) (I10.step b)
  rw [World.size_alloc] at h
  exact h
theorem aw_gc {w : World} {A7 A8 A9 A10 : Option Addr} (I7 : IntsAt w A7 1 [-1]) (I8 : IntsAt w A8 1 [1]) (I9 : IntsAt w A9 1 [-1]) (I10 : IntsAt w A10 1 [1]) :
    PiecesAt (((w.alloc (.cells #[.int .i64 0, .int .i64 0, .slice A9 1 1, .int .i64 1, .int .i64 0, .int .i64 0, .slice A10 1 1, .int .i64 0] 56)).alloc (.cells #[.int .i64 0, .int .i64 0, .slice A7 1 1, .int .i64 5, .int .i64 0, .int .i64 0, .slice A8 1 1, .int .i64 (-4)] 56)).alloc (.cells #[.slice (some ⟨w.heap.size + 1, 0, none⟩) 2 2, .slice (some ⟨w.heap.size, 0, none⟩) 2 2] 34)) (some ⟨w.heap.size + 1 + 1, 0, none⟩) 2 [⟨some ⟨w.heap.size + 1, 0, none⟩, 2, 2, [atE A7 (-1) 5, atE A8 1 (-4)]⟩, ⟨some ⟨w.heap.size, 0, none⟩, 2, 2, [atE A9 (-1) 1, atE A10 1 0]⟩] := by
  have b := below_alloc w (.cells #[.int .i64 0, .int .i64 0, .slice A9 1 1, .int .i64 1, .int .i64 0, .int .i64 0, .slice A10 1 1, .int .i64 0] 56)
  have C2 := (conds_two (k := 1) (l := 0) I9 I10).step (below_alloc _ (.cells #[.int .i64 0, .int .i64 0, .slice A7 1 1, .int .i64 5, .int .i64 0, .int .i64 0, .slice A8 1 1, .int .i64 (-4)] 56))
  have C1 := conds_two (w := w.alloc (.cells #[.int .i64 0, .int .i64 0, .slice A9 1 1, .int .i64 1, .int .i64 0, .int .i64 0, .slice A10 1 1, .int .i64 0] 56)) (k := 5) (l := -4) (I7.step b) (I8.step b)
  rw [World.size_alloc] at C1
  have h := pieces_two (p := ⟨some ⟨w.heap.size + 1, 0, none⟩, 2, 2, [atE A7 (-1) 5, atE A8 1 (-4)]⟩) (q := ⟨some ⟨w.heap.size, 0, none⟩, 2, 2, [atE A9 (-1) 1, atE A10 1 0]⟩) C1 C2
  rw [World.size_alloc, World.size_alloc] at h
  exact h
theorem aw_gn {w : World} {B : Option Addr} (I : IntsAt w B 1 [1]) :
    PiecesAt ((w.alloc (.cells #[.int .i64 1, .int .i64 0, .slice B 1 1, .int .i64 (-3)] 56)).alloc (.cells #[.slice (some ⟨w.heap.size, 0, none⟩) 1 1] 34)) (some ⟨w.heap.size + 1, 0, none⟩) 1 [⟨some ⟨w.heap.size, 0, none⟩, 1, 1, [⟨1, 0, B, 1, 1, -3, [1]⟩]⟩] := by
  have C := conds_row (els := [⟨1, 0, B, 1, 1, -3, [1]⟩]) (heap_alloc_new w (.cells #[.int .i64 1, .int .i64 0, .slice B 1 1, .int .i64 (-3)] 56)) (fun e he => by
    rw [List.mem_singleton.1 he]
    exact I.step (below_alloc w _)) (by simp)
  have h := pieces_single (p := ⟨some ⟨w.heap.size, 0, none⟩, 1, 1, [⟨1, 0, B, 1, 1, -3, [1]⟩]⟩) C
  rw [World.size_alloc] at h
  exact h
set_option maxHeartbeats 16000000 in
theorem awake4 (w : World) : Calls Tryz.prog 10 #[] w fun e w' => e = .returned (.bool true) ∧ Below w.heap.size w w' := by
  have hB := Below.refl w.heap.size w
  have T1 : True := trivial
  have T2 : True := trivial
  have T3 : True := trivial
  have T4 : True := trivial
  have T5 : True := trivial
  have T6 : True := trivial
  have T7 : True := trivial
  have T8 : True := trivial
  have T9 : True := trivial
  have T10 : True := trivial
  have T11 : True := trivial
  go_enter Tryz.func10, Tryz.ntmps10
  go_wp2_with (first
    | (go_at_call 42; have t1 := T1; clear T1 t1; refine (law_at 1 0 (by omega) _).mono ?_; rintro e w1 ⟨A1, rfl, I1, hb⟩; replace hB := below_step hB hb; clear hb)
    | (go_at_call 42; have t1 := T2; clear T2 t1; refine (law_at (-1) 5 (by omega) _).mono ?_; rintro e w2 ⟨A2, rfl, I2, hb⟩; replace hB := below_step hB hb; replace I1 := I1.step hb; clear hb; have C1 := conds_two (k := 0) (l := 5) I1 I2; have Q1 := pieces_single (p := ⟨some ⟨w2.heap.size, 0, none⟩, 2, 2, [atE A1 1 0, atE A2 (-1) 5]⟩) C1; rw [World.size_alloc] at Q1; clear C1 I1 I2; have b9 := below_step (below_alloc w2 (.cells #[.int .i64 0, .int .i64 0, .slice A1 1 1, .int .i64 0, .int .i64 0, .int .i64 0, .slice A2 1 1, .int .i64 5] 56)) (below_alloc (w2.alloc (.cells #[.int .i64 0, .int .i64 0, .slice A1 1 1, .int .i64 0, .int .i64 0, .int .i64 0, .slice A2 1 1, .int .i64 5] 56)) (.cells #[.slice (some ⟨w2.heap.size, 0, none⟩) 2 2] 34)); replace hB := below_step hB b9; clear b9; have b9 := below_alloc ((w2.alloc (.cells #[.int .i64 0, .int .i64 0, .slice A1 1 1, .int .i64 0, .int .i64 0, .int .i64 0, .slice A2 1 1, .int .i64 5] 56)).alloc (.cells #[.slice (some ⟨w2.heap.size, 0, none⟩) 2 2] 34)) (.cells #[.int .i64 1, .slice (some ⟨w2.heap.size + 1, 0, none⟩) 1 1] 24); have X1 := SetBox.new ((w2.alloc (.cells #[.int .i64 0, .int .i64 0, .slice A1 1 1, .int .i64 0, .int .i64 0, .int .i64 0, .slice A2 1 1, .int .i64 5] 56)).alloc (.cells #[.slice (some ⟨w2.heap.size, 0, none⟩) 2 2] 34)) 1 (some ⟨w2.heap.size + 1, 0, none⟩) 1 1; replace hB := below_step hB b9; replace Q1 := Q1.step b9; clear b9; simp only [World.size_alloc] at X1)
    | (go_at_call 42; have t1 := T3; clear T3 t1; refine (law_at 1 (-2) (by omega) _).mono ?_; rintro e w3 ⟨A3, rfl, I3, hb⟩; replace hB := below_step hB hb; replace Q1 := Q1.step hb; replace X1 := X1.step hb; clear hb)
    | (go_at_call 42; have t1 := T4; clear T4 t1; refine (law_at (-1) 3 (by omega) _).mono ?_; rintro e w4 ⟨A4, rfl, I4, hb⟩; replace hB := below_step hB hb; replace Q1 := Q1.step hb; replace X1 := X1.step hb; replace I3 := I3.step hb; clear hb; have C3 := conds_two (k := (-2)) (l := 3) I3 I4; have Q3 := pieces_single (p := ⟨some ⟨w4.heap.size, 0, none⟩, 2, 2, [atE A3 1 (-2), atE A4 (-1) 3]⟩) C3; rw [World.size_alloc] at Q3; clear C3 I3 I4; have b9 := below_step (below_alloc w4 (.cells #[.int .i64 0, .int .i64 0, .slice A3 1 1, .int .i64 (-2), .int .i64 0, .int .i64 0, .slice A4 1 1, .int .i64 3] 56)) (below_alloc (w4.alloc (.cells #[.int .i64 0, .int .i64 0, .slice A3 1 1, .int .i64 (-2), .int .i64 0, .int .i64 0, .slice A4 1 1, .int .i64 3] 56)) (.cells #[.slice (some ⟨w4.heap.size, 0, none⟩) 2 2] 34)); replace hB := below_step hB b9; replace Q1 := Q1.step b9; replace X1 := X1.step b9; clear b9; have b9 := below_alloc ((w4.alloc (.cells #[.int .i64 0, .int .i64 0, .slice A3 1 1, .int .i64 (-2), .int .i64 0, .int .i64 0, .slice A4 1 1, .int .i64 3] 56)).alloc (.cells #[.slice (some ⟨w4.heap.size, 0, none⟩) 2 2] 34)) (.cells #[.int .i64 1, .slice (some ⟨w4.heap.size + 1, 0, none⟩) 1 1] 24); have X3 := SetBox.new ((w4.alloc (.cells #[.int .i64 0, .int .i64 0, .slice A3 1 1, .int .i64 (-2), .int .i64 0, .int .i64 0, .slice A4 1 1, .int .i64 3] 56)).alloc (.cells #[.slice (some ⟨w4.heap.size, 0, none⟩) 2 2] 34)) 1 (some ⟨w4.heap.size + 1, 0, none⟩) 1 1; replace hB := below_step hB b9; replace Q1 := Q1.step b9; replace X1 := X1.step b9; replace Q3 := Q3.step b9; clear b9; simp only [World.size_alloc] at X3; have c0 := X1.c0; have c1 := X1.c1; have d0 := X3.c0; have d1 := X3.c1)
    | (go_at_call 18; refine (aw_minus_call Q1 Q3).mono ?_; rintro e w5 hG; obtain ⟨A50, k50, c50, us, rfl, HP, -, HD, -, hb⟩ := gather_ok hG; have b9 := below_alloc w5 (.cells #[.int .i64 1, .slice A50 k50 c50] 24); replace hB := below_step (below_step hB hb) b9; replace HP := HP.step b9; have M5 := SetBox.new w5 1 A50 k50 c50; clear hG hb b9 X1 X3 Q1 Q3 c0 c1 d0 d1)
    | (go_at_call 42; have t1 := T5; clear T5 t1; refine (law_at 1 (-3) (by omega) _).mono ?_; rintro e w6 ⟨A5, rfl, I5, hb⟩; replace hB := below_step hB hb; replace HP := HP.step hb; replace M5 := M5.step hb; clear hb)
    | (go_at_call 42; have t1 := T6; clear T6 t1; refine (law_at (-1) 3 (by omega) _).mono ?_; rintro e w7 ⟨A6, rfl, I6, hb⟩; replace hB := below_step hB hb; replace HP := HP.step hb; replace M5 := M5.step hb; replace I5 := I5.step hb; clear hb; have C5 := conds_two (k := (-3)) (l := 3) I5 I6; have Q5 := pieces_single (p := ⟨some ⟨w7.heap.size, 0, none⟩, 2, 2, [atE A5 1 (-3), atE A6 (-1) 3]⟩) C5; rw [World.size_alloc] at Q5; clear C5 I5 I6; have b9 := below_step (below_alloc w7 (.cells #[.int .i64 0, .int .i64 0, .slice A5 1 1, .int .i64 (-3), .int .i64 0, .int .i64 0, .slice A6 1 1, .int .i64 3] 56)) (below_alloc (w7.alloc (.cells #[.int .i64 0, .int .i64 0, .slice A5 1 1, .int .i64 (-3), .int .i64 0, .int .i64 0, .slice A6 1 1, .int .i64 3] 56)) (.cells #[.slice (some ⟨w7.heap.size, 0, none⟩) 2 2] 34)); replace hB := below_step hB b9; replace HP := HP.step b9; replace M5 := M5.step b9; clear b9)
    | (go_at_call 11; refine (aw_norm_call Q5).mono ?_; rintro e w8 hG; obtain ⟨A80, k80, c80, vs, rfl, HN, -, HE, -, hb⟩ := gather_ok hG; have b9 := below_step hb (below_alloc w8 (.cells #[.int .i64 1, .slice A80 k80 c80] 24)); replace HN := HN.step (below_alloc w8 (.cells #[.int .i64 1, .slice A80 k80 c80] 24)); have M8 := SetBox.new w8 1 A80 k80 c80; replace hB := below_step hB b9; replace HP := HP.step b9; replace M5 := M5.step b9; clear hG hb b9 Q5))
  have I1 := one_row (w8.alloc (.cells #[.int .i64 1, .slice A80 k80 c80] 24)) 1 (by omega)
  have b1 := below_alloc (w8.alloc (.cells #[.int .i64 1, .slice A80 k80 c80] 24)) (.cells #[.int .i64 1] 3)
  have K7 := CBox.new ((w8.alloc (.cells #[.int .i64 1, .slice A80 k80 c80] 24)).alloc (.cells #[.int .i64 1] 3)) 1 0 (some ⟨w8.heap.size + 1, 0, none⟩) 1 1 (-3)
  have b2 := below_step b1 (below_alloc _ (.cells #[.int .i64 1, .int .i64 0, .slice (some ⟨w8.heap.size + 1, 0, none⟩) 1 1, .int .i64 (-3)] 56))
  have b3 := below_alloc ((w8.alloc (.cells #[.int .i64 1, .slice A80 k80 c80] 24)).alloc (.cells #[.int .i64 1] 3)) (.cells #[.int .i64 1, .int .i64 0, .slice (some ⟨w8.heap.size + 1, 0, none⟩) 1 1, .int .i64 (-3)] 56)
  replace HN := HN.step b2
  replace HP := HP.step b2
  replace M5 := M5.step b2
  replace M8 := M8.step b2
  replace I1 := I1.step b3
  replace hB := below_step hB b2
  simp only [World.size_alloc] at K7 I1
  clear b1 b2 b3
  generalize ((w8.alloc (.cells #[.int .i64 1, .slice A80 k80 c80] 24)).alloc (.cells #[.int .i64 1] 3)).alloc (.cells #[.int .i64 1, .int .i64 0, .slice (some ⟨w8.heap.size + 1, 0, none⟩) 1 1, .int .i64 (-3)] 56) = w9 at *
  have HD := Lib.hid HD
  have HE := Lib.hid HE
  generalize w5.heap.size = b5 at *
  generalize w8.heap.size = b8 at *
  have c0 := M5.c0
  have c1 := M5.c1
  have d0 := M8.c0
  have d1 := M8.c1
  have e0 := K7.c0
  have e1 := K7.c1
  have e2 := K7.c2
  have e3 := K7.c3
  go_region_held3 (fun W => W.cell? ⟨b5, 0, none⟩ = some (.int .i64 1) ∧ W.cell? ⟨b5, 1, none⟩ = some (.slice A50 k50 c50) ∧ W.cell? ⟨b8, 0, none⟩ = some (.int .i64 1) ∧ W.cell? ⟨b8, 1, none⟩ = some (.slice A80 k80 c80) ∧ W.cell? ⟨b8 + 1 + 1, 0, none⟩ = some (.int .i64 1) ∧ W.cell? ⟨b8 + 1 + 1, 1, none⟩ = some (.int .i64 0) ∧ W.cell? ⟨b8 + 1 + 1, 2, none⟩ = some (.slice (some ⟨b8 + 1, 0, none⟩) 1 1) ∧ W.cell? ⟨b8 + 1 + 1, 3, none⟩ = some (.int .i64 (-3))) (first | with_reducible exact ⟨c0, c1, d0, d1, e0, e1, e2, e3⟩ | go_keep)
    (first
      | (go_at_call 42; have t1 := T7; clear T7 t1; refine (law_at (-1) (5) (by omega) _).mono ?_; rintro e w10 ⟨A7, rfl, I7, hb⟩; have hx : Below w9.heap.size w9 w10 := (by first | exact hb | exact below_step (Below.refl _ w9).drew hb | exact below_step (below_alloc _ _) hb); replace HN := HN.step hx; replace HP := HP.step hx; replace M5 := M5.step hx; replace M8 := M8.step hx; replace K7 := K7.step hx; replace I1 := I1.step hx; replace hB := below_step hB hx; clear hb hx; clear c0 c1 d0 d1 e0 e1 e2 e3; have c0 := M5.c0; have c1 := M5.c1; have d0 := M8.c0; have d1 := M8.c1; have e0 := K7.c0; have e1 := K7.c1; have e2 := K7.c2; have e3 := K7.c3)
      | (go_at_call 42; have t1 := T8; clear T8 t1; refine (law_at (1) (-4) (by omega) _).mono ?_; rintro e w11 ⟨A8, rfl, I8, hb⟩; have hx : Below w10.heap.size w10 w11 := (by first | exact hb | exact below_step (Below.refl _ w10).drew hb | exact below_step (below_alloc _ _) hb); replace HN := HN.step hx; replace HP := HP.step hx; replace M5 := M5.step hx; replace M8 := M8.step hx; replace K7 := K7.step hx; replace I1 := I1.step hx; replace I7 := I7.step hx; replace hB := below_step hB hx; clear hb hx; clear c0 c1 d0 d1 e0 e1 e2 e3; have c0 := M5.c0; have c1 := M5.c1; have d0 := M8.c0; have d1 := M8.c1; have e0 := K7.c0; have e1 := K7.c1; have e2 := K7.c2; have e3 := K7.c3)
      | (go_at_call 42; have t1 := T9; clear T9 t1; refine (law_at (-1) (1) (by omega) _).mono ?_; rintro e w12 ⟨A9, rfl, I9, hb⟩; have hx : Below w11.heap.size w11 w12 := (by first | exact hb | exact below_step (Below.refl _ w11).drew hb | exact below_step (below_alloc _ _) hb); (try (have R9 : w12.heap[w11.heap.size]? = some (.cells (ccells [atE A7 (-1) 5, atE A8 1 (-4)]).toArray 56 (0, 0)) := (hb.block _ (by simp)).trans (heap_alloc_new w11 (.cells #[.int .i64 0, .int .i64 0, .slice A7 1 1, .int .i64 5, .int .i64 0, .int .i64 0, .slice A8 1 1, .int .i64 (-4)] 56)))); replace HN := HN.step hx; replace HP := HP.step hx; replace M5 := M5.step hx; replace M8 := M8.step hx; replace K7 := K7.step hx; replace I1 := I1.step hx; replace I7 := I7.step hx; replace I8 := I8.step hx; replace hB := below_step hB hx; clear hb hx; clear c0 c1 d0 d1 e0 e1 e2 e3; have c0 := M5.c0; have c1 := M5.c1; have d0 := M8.c0; have d1 := M8.c1; have e0 := K7.c0; have e1 := K7.c1; have e2 := K7.c2; have e3 := K7.c3)
      | (go_at_call 42; have t1 := T10; clear T10 t1; refine (law_at (1) (0) (by omega) _).mono ?_; rintro e w13 ⟨A10, rfl, I10, hb⟩; have hx : Below w12.heap.size w12 w13 := (by first | exact hb | exact below_step (Below.refl _ w12).drew hb | exact below_step (below_alloc _ _) hb); (try (replace R9 := (hx.block _ (Array.getElem?_eq_some_iff.1 R9).1).trans R9)); (try (have R10 : w13.heap[w12.heap.size]? = some (.cells (ccells [atE A7 (-1) 5, atE A8 1 (-4)]).toArray 56 (0, 0)) := (hb.block _ (by simp)).trans (heap_alloc_new w12 (.cells #[.int .i64 0, .int .i64 0, .slice A7 1 1, .int .i64 5, .int .i64 0, .int .i64 0, .slice A8 1 1, .int .i64 (-4)] 56)))); replace HN := HN.step hx; replace HP := HP.step hx; replace M5 := M5.step hx; replace M8 := M8.step hx; replace K7 := K7.step hx; replace I1 := I1.step hx; replace I7 := I7.step hx; replace I8 := I8.step hx; replace I9 := I9.step hx; replace hB := below_step hB hx; clear hb hx; clear c0 c1 d0 d1 e0 e1 e2 e3; have c0 := M5.c0; have c1 := M5.c1; have d0 := M8.c0; have d1 := M8.c1; have e0 := K7.c0; have e1 := K7.c1; have e2 := K7.c2; have e3 := K7.c3)
      | (go_at_call 41; have t1 := T11; clear T11 t1; (first | (refine (aw_core (HP.step (below_step (below_alloc _ _) (below_alloc _ _))) (aw_ga R9 I7 I8 I9 I10) HD.out).mono ?_; rintro e w14 ⟨rfl, hb⟩; have hx := below_step (below_step (below_alloc _ _) (below_alloc _ _)) hb) | (refine (aw_core (HP.step (below_step (below_alloc _ _) (below_alloc _ _))) (aw_ga R10 I7 I8 I9 I10) HD.out).mono ?_; rintro e w14 ⟨rfl, hb⟩; have hx := below_step (below_step (below_alloc _ _) (below_alloc _ _)) hb) | (refine (aw_core (HP.step (below_step (below_step (below_alloc _ _) (below_alloc _ _)) (below_alloc _ _))) (aw_gb I7 I8 I9 I10) HD.out).mono ?_; rintro e w14 ⟨rfl, hb⟩; have hx := below_step (below_step (below_step (below_alloc _ _) (below_alloc _ _)) (below_alloc _ _)) hb) | (refine (aw_core (HP.step (below_step (below_step (below_alloc _ _) (below_alloc _ _)) (below_alloc _ _))) (aw_gc I7 I8 I9 I10) HD.out).mono ?_; rintro e w14 ⟨rfl, hb⟩; have hx := below_step (below_step (below_step (below_alloc _ _) (below_alloc _ _)) (below_alloc _ _)) hb)); replace HN := HN.step hx; replace M5 := M5.step hx; replace M8 := M8.step hx; replace K7 := K7.step hx; replace I1 := I1.step hx; replace hB := below_step hB hx; clear hb hx; clear c0 c1 d0 d1 e0 e1 e2 e3; have c0 := M5.c0; have c1 := M5.c1; have d0 := M8.c0; have d1 := M8.c1; have e0 := K7.c0; have e1 := K7.c1; have e2 := K7.c2; have e3 := K7.c3)
      | (go_at_call 41; refine (aw_core (HN.step (below_step (below_alloc _ _) (below_alloc _ _))) (aw_gn I1) HE.out).mono ?_; rintro e w15 ⟨rfl, hb⟩; have hx := below_step (below_step (below_alloc _ _) (below_alloc _ _)) hb; replace M5 := M5.step hx; replace M8 := M8.step hx; replace K7 := K7.step hx; replace hB := below_step hB hx; clear hb hx; clear c0 c1 d0 d1 e0 e1 e2 e3; have c0 := M5.c0; have c1 := M5.c1; have d0 := M8.c0; have d1 := M8.c1; have e0 := K7.c0; have e1 := K7.c1; have e2 := K7.c2; have e3 := K7.c3))
  all_goals
    go_wp2
    go_ret
    exact ⟨rfl, hB⟩
end Go.Proofs.YtkgnlloioaobiaaGreat
namespace Go.Proofs.YtkgnlloioaobiaaGreat
open Go.RowKit
structure SEl where
  D : Int
  A : Option Addr
  n : Nat
  c : Nat
  ps : List PEl
structure SetsAt (w : World) (A : Option Addr) (m : Nat) (ss : List SEl) : Prop where
  len : ss.length = m
  small : m ≤ 4
  cells : 0 < m → ∃ b off, A = some ⟨b, off, none⟩ ∧ b < w.heap.size ∧ ∀ j s, ss[j]? = some s → w.cell? ⟨b, off + j * 2, none⟩ = some (.int .i64 s.D) ∧ w.cell? ⟨b, off + j * 2 + 1, none⟩ = some (.slice s.A s.n s.c)
  pieces : ∀ s ∈ ss, PiecesAt w s.A s.n s.ps
theorem SetsAt.step {w w' : World} {A : Option Addr} {m : Nat} {ss : List SEl} (h : SetsAt w A m ss) (hb : Below w.heap.size w w') : SetsAt w' A m ss :=
  ⟨h.len, h.small, fun hm => let ⟨b, off, hA, hlt, hc⟩ := h.cells hm; ⟨b, off, hA, Nat.lt_of_lt_of_le hlt hb.size, fun j s hs => ⟨(hb.cell (p := ⟨b, off + j * 2, none⟩) hlt).trans (hc j s hs).1, (hb.cell (p := ⟨b, off + j * 2 + 1, none⟩) hlt).trans (hc j s hs).2⟩⟩, fun s hs => (h.pieces s hs).step hb⟩
theorem SetsAt.at {w : World} {A : Option Addr} {m : Nat} {ss : List SEl} (h : SetsAt w A m ss) {j : Nat} (hj : j < m) : ∃ b off s, A = some ⟨b, off, none⟩ ∧ b < w.heap.size ∧ ss[j]? = some s ∧ s ∈ ss ∧ (w.cell? ⟨b, off + j * 2, none⟩ = some (.int .i64 s.D) ∧ w.cell? ⟨b, off + j * 2 + 1, none⟩ = some (.slice s.A s.n s.c)) ∧ PiecesAt w s.A s.n s.ps := by
  obtain ⟨b, off, hA, hlt, hc⟩ := h.cells (by omega)
  have hj' : j < ss.length := by rw [h.len]; exact hj
  exact ⟨b, off, ss[j], hA, hlt, List.getElem?_eq_getElem hj', List.getElem_mem hj', hc j _ (List.getElem?_eq_getElem hj'), h.pieces _ (List.getElem_mem hj')⟩
def fewP (C : Int) (ps : List PEl) : Bool := ps.all fun p => decide ((p.els.length : Int) ≤ C)
def fewC (C : Int) (ss : List SEl) : Bool := ss.all fun s => fewP C s.ps
def fewN : List SEl → Int
  | [] => 0
  | s :: ss => (s.ps.length : Int) + fewN ss
def fewB (P C : Int) (ss : List SEl) : Bool := fewC C ss && decide (fewN ss ≤ P)
theorem fewN_append : ∀ l l' : List SEl, fewN (l ++ l') = fewN l + fewN l'
  | [], l' => by simp [fewN]
  | s :: l, l' => by simp only [List.cons_append, fewN, fewN_append l l']; omega
theorem fewN_take {ss : List SEl} {i : Nat} {s : SEl} (h : ss[i]? = some s) : fewN (ss.take (i + 1)) = fewN (ss.take i) + (s.ps.length : Int) := by
  rw [List.take_add_one, h, Option.toList, fewN_append]
  simp [fewN]
set_option maxHeartbeats 4000000 in
theorem few (P C : Int) (A : Option Addr) (m c : Nat) (ss : List SEl) (w : World) (S0 : SetsAt w A m ss) :
    Calls Tryz.prog 9 #[.int .i64 P, .int .i64 C, .slice A m c] w fun e w' => e = .returned (.bool (fewB P C ss)) ∧ Below w.heap.size w w' := by
  have hsm := S0.small
  have HL := Lib.hid S0.len
  obtain ⟨er, her⟩ : ∃ er, fewB P C ss = er := ⟨_, rfl⟩
  rw [her]
  have HE := Lib.hid her
  clear her
  go_enter Tryz.func9, Tryz.ntmps9
  go_wp2
  go_loopw [7, 14] (fun u v wr => ∃ (i : Nat) (N : Int), i ≤ m ∧ v = .int .i64 i ∧ u = .int .i64 N ∧ (0 ≤ N ∧ N ≤ i * 17592186044416) ∧ (fewN (ss.take i) = N ∧ ∀ j x, j < i → ss[j]? = some x → fewP C x.ps = true) ∧ Below w.heap.size w wr) (fun _ v _ => m - (intOf v).toNat)
  case atStart => exact ⟨0, 0, Nat.zero_le _, rfl, rfl, by omega, ⟨rfl, fun j x h => absurd h (by omega)⟩, Below.refl _ _⟩
  case round =>
    obtain ⟨i, N, hi, rfl, rfl, ⟨hN0, hN1⟩, hgood, hbr⟩ := hrel
    have HG := Lib.hid hgood
    clear hgood
    by_cases hlt : i < m
    · obtain ⟨b, off, s, rfl, hblt, hsj, hmem, hcs, hP⟩ := (S0.step hbr).at hlt; obtain ⟨x0, x1⟩ := hcs; have HSJ := Lib.hid hsj; obtain ⟨sD, sA, sn, sc, sps⟩ := s; simp only at x0 x1 hP; have hq1 : (i : Int) < m := (by omega); have b5 := below_alloc wr (.cells #[.int .i64 sD, .slice sA sn sc] 24); have P1 := hP.step b5; have X1 := SetBox.new wr sD sA sn sc; have z1 := X1.c1; have hss := hP.small; have HPL := Lib.hid hP.len; have hbr1 := hbr.trans (b5.mono hbr.size); clear b5 hmem hsj hP
      have hw : wrap64 (N + (sn : Int)) = N + sn := IntWalk.wrap64_in _ (by omega)
      go_wp2
      generalize hw2 : wr.alloc (.cells #[.int .i64 sD, .slice sA sn sc] 24) = w2 at *
      clear hw2 z1 x0 x1
      go_loopw [26] (fun u wr => ∃ j : Nat, j ≤ sn ∧ u = .int .i64 j ∧ (∀ k x, k < j → sps[k]? = some x → decide ((x.els.length : Int) ≤ C) = true) ∧ Below w2.heap.size w2 wr) (fun u _ => sn - (intOf u).toNat)
      case atStart => exact ⟨0, Nat.zero_le _, rfl, (fun j x h => absurd h (by omega)), Below.refl _ _⟩
      case round =>
        obtain ⟨j, hj, rfl, hgood2, hbs⟩ := hrel
        have HG2 := Lib.hid hgood2
        clear hgood2
        by_cases hlt2 : j < sn
        · obtain ⟨b2, off2, p, rfl, hblt2, hpj, hmem, hcell, hCp⟩ := (P1.step hbs).at hlt2
          have HPJ := Lib.hid hpj
          obtain ⟨pA, pn, pc, pels⟩ := p
          simp only at hcell hCp
          have hq2 : (j : Int) < sn := by omega
          have HPE := Lib.hid hCp.len
          have hps := hCp.small
          clear hmem hpj hCp
          by_cases hC : C < (pn : Int)
          · have HR := Lib.hid (show er = false by
              rw [← HE.out]; unfold fewB fewC
              rw [all_not HSJ.out (show fewP C sps = false from all_not HPJ.out (decide_eq_false (by have := HPE.out; simp only; omega))), Bool.false_and])
            go_wp2
            go_ret
            exact ⟨ret_bool HR.out.symm, hbr1.trans (hbs.mono hbr1.size)⟩
          · go_wp2
            go_roundw
            case rel => exact ⟨j + 1, by omega, by go_num, (fun k x hk hkx => by
              rcases Nat.lt_or_eq_of_le (Nat.le_of_lt_succ hk) with h | rfl
              · exact HG2.out k x h hkx
              · rw [HPJ.out] at hkx; cases hkx; exact decide_eq_true (by have := HPE.out; simp only; omega)), hbs⟩
            case measure => simp [intOf]; omega
        · have hge : ¬ ((j : Int) < sn) := by omega
          have HF := Lib.hid (show fewP C sps = true from all_yes fun k x hk hkx => HG2.out k x (by have hk : k < sps.length := hk; have := HPL.out; omega) hkx)
          go_wp2
          go_roundw
          case rel => exact ⟨i + 1, N + sn, by omega, by go_num, by first | rfl | rw [hw], by omega, ⟨by rw [fewN_take HSJ.out, HG.out.1]; have := HPL.out; simp only; omega, fun k x hk hkx => by
            rcases Nat.lt_or_eq_of_le (Nat.le_of_lt_succ hk) with h | rfl
            · exact HG.out.2 k x h hkx
            · rw [HSJ.out] at hkx; cases hkx; exact HF.out⟩, hbr1.trans (hbs.mono hbr1.size)⟩
          case measure => simp [intOf]; omega
    · have hge : ¬ ((i : Int) < m) := by omega
      have HR := Lib.hid (show er = decide (N ≤ P) by
        rw [← HE.out]; unfold fewB fewC
        rw [all_yes fun j x hj => HG.out.2 j x (by have := HL.out; omega), Bool.true_and, ← HG.out.1, List.take_of_length_le (by have := HL.out; omega)])
      go_wp2
      go_ret
      exact ⟨ret_bool HR.out.symm, hbr⟩
end Go.Proofs.YtkgnlloioaobiaaGreat
namespace Go.Proofs.YtkgnlloioaobiaaGreat
open Go.RowKit
theorem piece_bad {D : Int} {els : List CEl} {i : Nat} {e : CEl} (he : els[i]? = some e) (h : e.ok = false ∨ (e.n : Int) ≠ D) : condsE D els ≠ 0 := by
  unfold condsE
  rcases h with h | h
  · rw [if_neg (by rw [all_not he h]; decide)]; decide
  · by_cases ho : els.all CEl.ok = true
    · rw [if_pos ho, if_neg (by rw [all_not (p := fun e : CEl => (e.n : Int) == D) he (by simpa using h)]; decide)]; decide
    · rw [if_neg ho]; decide
theorem piece_good {D : Int} {els : List CEl} (h : ∀ i e, i < els.length → els[i]? = some e → e.ok = true ∧ (e.n : Int) = D) : condsE D els = 0 := by
  unfold condsE
  rw [if_pos (all_yes fun i e hi he => (h i e hi he).1), if_pos (all_yes fun i e hi he => by simpa using (h i e hi he).2)]
theorem piece_len {D : Int} {p : PEl} (h : ¬ p.els.length ≤ 96) : pieceOk D p = false := by
  unfold pieceOk; rw [decide_eq_false h]; rfl
theorem piece_no {D : Int} {p : PEl} (h : condsE D p.els ≠ 0) : pieceOk D p = false := by
  unfold pieceOk; rw [decide_eq_false h, Bool.and_false]
theorem piece_yes {D : Int} {p : PEl} (h : p.els.length ≤ 96) (h0 : condsE D p.els = 0) : pieceOk D p = true := by
  unfold pieceOk; rw [decide_eq_true h, decide_eq_true h0]; rfl
set_option maxHeartbeats 4000000 in
theorem ref_svalid (D : Int) (A : Option Addr) (n c : Nat) (ps : List PEl) (w : World) (h : PiecesAt w A n ps) :
    Calls Tryz.prog 46 #[setV D A n c] w fun e w' => e = .returned (.bool (validS D ps)) ∧ Below w.heap.size w w' := by
  have hB := below_alloc w (.cells #[.int .i64 D, .slice A n c] 24)
  have P0 := h.step hB
  have B1 := SetBox.new w D A n c
  have c0 := B1.c0
  have c1 := B1.c1
  have hl := h.len
  have hsm := h.small
  by_cases hd : 0 ≤ D ∧ D ≤ 12 ∧ ps.length ≤ 400
  · have HE := Lib.hid (validS_in hd)
    obtain ⟨v, hv⟩ : ∃ v, validS D ps = v := ⟨_, rfl⟩
    rw [hv] at HE ⊢
    obtain ⟨hd0, hd1, hd2⟩ := hd
    have hn : (n : Int) ≤ 400 := by omega
    have q1 : ¬ (400 : Int) < (n : Int) := by omega
    have HL := Lib.hid hl
    clear hv h hd2 hl
    go_enter Tryz.func46, Tryz.ntmps46
    go_wp2
    generalize hw0 : w.alloc (.cells #[.int .i64 D, .slice A n c] 24) = w0 at *
    clear hw0 q1
    go_loopw [24] (fun u wr => ∃ i : Nat, i ≤ n ∧ u = .int .i64 i ∧ (∀ j x, j < i → ps[j]? = some x → pieceOk D x = true) ∧ Below w0.heap.size w0 wr) (fun u _ => n - (intOf u).toNat)
    case atStart => exact ⟨0, Nat.zero_le _, rfl, (fun j x h => absurd h (by omega)), Below.refl _ _⟩
    case round =>
      obtain ⟨i, hi, rfl, hgood, hbr⟩ := hrel
      have HG := Lib.hid hgood
      have B2 := B1.step hbr
      clear hgood c0 c1
      by_cases hlt : i < n
      · obtain ⟨b, off, p, rfl, hblt, hpj, hmem, hcell, hCp⟩ := (P0.step hbr).at hlt; have HPJ := Lib.hid hpj; obtain ⟨pA, pn, pc, pels⟩ := p; simp only at hcell hCp; have hq1 : (i : Int) < n := (by omega); have hps := hCp.small; have HPL := Lib.hid hCp.len; clear hmem hpj
        by_cases h96 : pn ≤ 96
        · have q96 : ¬ (96 : Int) < (pn : Int) := by omega
          have C1 := hCp
          go_wp2
          clear hcell q96 hblt
          generalize hw2 : wr = w2 at *
          clear hw2
          go_loopw [33] (fun u wr => ∃ j : Nat, j ≤ pn ∧ u = .int .i64 j ∧ (∀ k x, k < j → pels[k]? = some x → x.ok = true ∧ (x.n : Int) = D) ∧ Below w2.heap.size w2 wr) (fun u _ => pn - (intOf u).toNat)
          case atStart => exact ⟨0, Nat.zero_le _, rfl, (fun j x h => absurd h (by omega)), Below.refl _ _⟩
          case round =>
            obtain ⟨j, hj, rfl, hgood2, hbs⟩ := hrel
            have HG2 := Lib.hid hgood2
            clear hgood2
            by_cases hlt2 : j < pn
            · obtain ⟨b2, off2, e, rfl, hblt2, hej, hmem, hcs, hin⟩ := (C1.step hbs).at hlt2; obtain ⟨x0, x1, x2, x3⟩ := hcs; have HEJ := Lib.hid hej; obtain ⟨eq, eM, eA, en, ec, eK, exs⟩ := e; simp only at x0 x1 x2 x3 hin; have hq2 : (j : Int) < pn := (by omega); have b5 := below_alloc wr (.cells #[.int .i64 eq, .int .i64 eM, .slice eA en ec, .int .i64 eK] 56); have y1 := hin.step b5; have X1 := CBox.new wr eq eM eA en ec eK; have B3 := (B2.step hbs).step b5; have hbr1 := hbs.trans (b5.mono hbs.size); clear b5 hmem hej hin hbs
              cases hcv : validC eq eM exs eK
              · have HV := Lib.hid hcv
                have HR := Lib.hid (show v = false by rw [HE.out, all_not HPJ.out (piece_no (piece_bad HEJ.out (.inl hcv)))])
                clear hcv
                go_wp2_with (go_at_call 58; refine (ref_cvalid _ _ _ _ _ _ exs _ y1).mono ?_; rintro e w1 ⟨rfl, hb⟩; rw [HV.out]; replace hbr1 := hbr1.trans (hb.mono hbr1.size))
                go_ret
                exact ⟨ret_bool HR.out.symm, below_step hB (hbr.trans (hbr1.mono hbr.size))⟩
              · have HV := Lib.hid hcv
                by_cases hnD : (en : Int) = D
                · have HN := Lib.hid hnD
                  have q1 : ((en : Int) != D) = false := by simpa using hnD
                  have q2 : ((en : Int) == D) = true := by simpa using hnD
                  clear hcv hnD
                  go_wp2_with (go_at_call 58; refine (ref_cvalid _ _ _ _ _ _ exs _ y1).mono ?_; rintro e w1 ⟨rfl, hb⟩; rw [HV.out]; replace hbr1 := hbr1.trans (hb.mono hbr1.size); have z2 := (X1.step hb).c2; have c0 := (B3.step hb).c0)
                  go_roundw
                  case rel => exact ⟨j + 1, by omega, by go_num, (fun k x hk hkx => by
                    rcases Nat.lt_or_eq_of_le (Nat.le_of_lt_succ hk) with h | rfl
                    · exact HG2.out k x h hkx
                    · rw [HEJ.out] at hkx; cases hkx; exact ⟨HV.out, HN.out⟩), hbr1⟩
                  case measure => simp [intOf]; omega
                · have HR := Lib.hid (show v = false by rw [HE.out, all_not HPJ.out (piece_no (piece_bad HEJ.out (.inr hnD)))])
                  have q1 : ((en : Int) != D) = true := by simpa using hnD
                  have q2 : ((en : Int) == D) = false := by simpa using hnD
                  clear hcv hnD
                  go_wp2_with (go_at_call 58; refine (ref_cvalid _ _ _ _ _ _ exs _ y1).mono ?_; rintro e w1 ⟨rfl, hb⟩; rw [HV.out]; replace hbr1 := hbr1.trans (hb.mono hbr1.size); have z2 := (X1.step hb).c2; have c0 := (B3.step hb).c0)
                  go_ret
                  exact ⟨ret_bool HR.out.symm, below_step hB (hbr.trans (hbr1.mono hbr.size))⟩
            · have hge : ¬ ((j : Int) < pn) := by omega
              have HP := Lib.hid (show pieceOk D ⟨pA, pn, pc, pels⟩ = true from piece_yes (by have := HPL.out; simp only; omega) (piece_good fun k x hk hkx => HG2.out k x (by have hk : k < pels.length := hk; have := HPL.out; omega) hkx))
              go_wp2
              go_roundw
              case rel => exact ⟨i + 1, by omega, by go_num, (fun k x hk hkx => by
                rcases Nat.lt_or_eq_of_le (Nat.le_of_lt_succ hk) with h | rfl
                · exact HG.out k x h hkx
                · rw [HPJ.out] at hkx; cases hkx; exact HP.out), hbr.trans (hbs.mono hbr.size)⟩
              case measure => simp [intOf]; omega
        · have HV := Lib.hid (show v = false by rw [HE.out, all_not HPJ.out (piece_len (by have := HPL.out; simp only; omega))])
          have q96 : (96 : Int) < (pn : Int) := by omega
          go_wp2
          go_ret
          exact ⟨ret_bool HV.out.symm, below_step hB hbr⟩
      · have hge : ¬ ((i : Int) < n) := by omega
        have HV := Lib.hid (show v = true by rw [HE.out]; exact all_yes fun j x hj => HG.out j x (by have := HL.out; omega))
        go_wp2
        go_ret
        exact ⟨ret_bool HV.out.symm, below_step hB hbr⟩
  · have HE := Lib.hid (validS_out hd)
    rw [hl] at hd
    rcases (show D < 0 ∨ (0 ≤ D ∧ 12 < D) ∨ (0 ≤ D ∧ D ≤ 12 ∧ 400 < n) by omega) with h0 | ⟨h0, h1⟩ | ⟨h0, h1, h2⟩
    · clear hd
      go_enter Tryz.func46, Tryz.ntmps46
      go_wp2
      go_ret
      exact ⟨ret_bool HE.out.symm, hB⟩
    · clear hd
      go_enter Tryz.func46, Tryz.ntmps46
      go_wp2
      go_ret
      exact ⟨ret_bool HE.out.symm, hB⟩
    · have h3 : (400 : Int) < (n : Int) := by omega
      clear hd
      go_enter Tryz.func46, Tryz.ntmps46
      go_wp2
      go_ret
      exact ⟨ret_bool HE.out.symm, hB⟩
end Go.Proofs.YtkgnlloioaobiaaGreat
namespace Go.Proofs.YtkgnlloioaobiaaGreat
open Go.RowKit
theorem sets_two {w : World} {D : Int} {A : Option Addr} {n c : Nat} {ps : List PEl} {D' : Int} {A' : Option Addr} {n' c' : Nat} {ps' : List PEl} (h : PiecesAt w A n ps) (h' : PiecesAt w A' n' ps') : SetsAt (w.alloc (.cells #[.int .i64 D, .slice A n c, .int .i64 D', .slice A' n' c'] 24)) (some ⟨w.heap.size, 0, none⟩) 2 [⟨D, A, n, c, ps⟩, ⟨D', A', n', c', ps'⟩] := by
  have hg := heap_alloc_new w (.cells #[.int .i64 D, .slice A n c, .int .i64 D', .slice A' n' c'] 24)
  have key : ∀ (k : Nat) (v : Value), #[Value.int .i64 D, .slice A n c, .int .i64 D', .slice A' n' c'][k]? = some v → (w.alloc (.cells #[.int .i64 D, .slice A n c, .int .i64 D', .slice A' n' c'] 24)).cell? ⟨w.heap.size, k, none⟩ = some v := fun k v hv => by rw [cell_of_row _ _ k _ _ (0, 0) hg]; exact hv
  refine ⟨rfl, by omega, fun _ => ⟨w.heap.size, 0, rfl, by simp, fun j s hs => ?_⟩, fun s hs => ?_⟩
  · match j, hs with
    | 0, hs =>
      simp at hs
      subst hs
      exact ⟨key 0 _ rfl, key 1 _ rfl⟩
    | 1, hs =>
      simp at hs
      subst hs
      exact ⟨key 2 _ rfl, key 3 _ rfl⟩
    | j + 2, hs => simp at hs
  · rcases List.mem_cons.1 hs with rfl | hs
    · exact h.step (below_alloc w _)
    · rw [List.mem_singleton.1 hs]
      exact h'.step (below_alloc w _)
theorem few_two {w : World} {P C : Int} {D : Int} {A : Option Addr} {n c : Nat} {ps : List PEl} {D' : Int} {A' : Option Addr} {n' c' : Nat} {ps' : List PEl} (g c1 : Nat) (hg : w.heap.size = g) (h : PiecesAt w A n ps) (h' : PiecesAt w A' n' ps') :
    Calls Tryz.prog 9 #[.int .i64 P, .int .i64 C, .slice (some ⟨g, 0, none⟩) 2 c1] (w.alloc (.cells #[.int .i64 D, .slice A n c, .int .i64 D', .slice A' n' c'] 24)) fun e w' => e = .returned (.bool (fewB P C [⟨D, A, n, c, ps⟩, ⟨D', A', n', c', ps'⟩])) ∧ Below w.heap.size w w' := by
  subst hg
  refine (few P C _ 2 c1 _ _ (sets_two h h')).mono ?_
  rintro e w' ⟨he, hb⟩
  exact ⟨he, below_step (below_alloc w _) hb⟩
end Go.Proofs.YtkgnlloioaobiaaGreat
namespace Go.Proofs.YtkgnlloioaobiaaGreat
open Go.ChangeShapes Go.WideShapes Go.ChangeAt Go.RowKit
structure Part where
  A : Option Addr
  n : Nat
  c : Nat
  xs : List Int
def tot (P : Nat → Part) : Nat → Nat
  | 0 => 0
  | k + 1 => tot P k + (P k).n
end Go.Proofs.YtkgnlloioaobiaaGreat
namespace Go.Proofs.YtkgnlloioaobiaaGreat
open Go.RowKit
def RetC (w : World) (e : Ending) (w' : World) (ys : List Int) (K err : Int) : Prop :=
  ∃ A n c, e = .returned (.tuple #[.agg #[.slice A n c, .int .i64 K], .int .i64 err]) ∧ IntsAt w' A n ys ∧ Below w.heap.size w w' ∧ (n = 0 ∨ ∃ g, A = some ⟨g, 0, none⟩ ∧ w.heap.size ≤ g ∧ OwnRow w' g n ys) ∧ n ≤ c ∧ c ≤ 9223372036854775807
theorem RetC.f {w : World} {e : Ending} {w' : World} {ys : List Int} {K err : Int} (h : RetC w e w' ys K err) : RetF w e w' ys K err := by
  obtain ⟨A, n, c, h1, h2, h3, h4, _⟩ := h
  exact ⟨A, n, c, h1, h2, h3, h4.imp id fun ⟨g, a, b, _⟩ => ⟨g, a, b⟩⟩
theorem RetC.o {w : World} {e : Ending} {w' : World} {ys : List Int} {K err : Int} (h : RetC w e w' ys K err) : RetO w e w' ys K err := by
  obtain ⟨A, n, c, h1, h2, h3, h4, _⟩ := h
  exact ⟨A, n, c, h1, h2, h3, h4⟩
end Go.Proofs.YtkgnlloioaobiaaGreat
namespace Go.Proofs.YtkgnlloioaobiaaGreat
open Go.RowKit
def valD (n : Nat) (x : List Int) (d : CD) : Int := d.K + dotSum d.xs x n
theorem dot_sgn {n : Nat} {s : Int} {xs x : List Int} : dotSum (sgnL s xs) x n = s * dotSum xs x n :=
  dot_scale n fun j _ => by
    unfold sgnL
    rw [List.getElem?_map]
    cases xs[j]? <;> simp
section
variable {α : Type} (R : α → α → Bool) (S : α → α → Prop)
theorem compG_cover (hrefl : ∀ a, S a a) (htr : ∀ a b c, S a b → S b c → S a c) : ∀ (l : List α) (p : α), (p :: l).Pairwise (fun a b => R b a = true → S a b) → ∀ d ∈ l, (∃ e ∈ compG R p l, S e d) ∨ S p d
  | [], _, _, d, hd => nomatch hd
  | a :: l, p, hs, d, hd => by
    have hp := List.pairwise_cons.1 hs
    have ih := compG_cover hrefl htr l a hp.2
    unfold compG
    by_cases hR : R a p = true
    · rw [if_pos hR]
      have hpa := hp.1 a (List.mem_cons_self ..) hR
      rcases List.mem_cons.1 hd with rfl | hd
      · exact .inr hpa
      · rcases ih d hd with h | h
        · exact .inl h
        · exact .inr (htr _ _ _ hpa h)
    · rw [if_neg hR]
      rcases List.mem_cons.1 hd with rfl | hd
      · exact .inl ⟨d, List.mem_cons_self .., hrefl d⟩
      · rcases ih d hd with ⟨e, he, h⟩ | h
        · exact .inl ⟨e, List.mem_cons_of_mem _ he, h⟩
        · exact .inl ⟨a, List.mem_cons_self .., h⟩
theorem comp_cover (hrefl : ∀ a, S a a) (htr : ∀ a b c, S a b → S b c → S a c) {l : List α} (hs : l.Pairwise (fun a b => R b a = true → S a b)) : ∀ d ∈ l, ∃ e ∈ comp R l, S e d := by
  cases l with
  | nil => intro d hd; cases hd
  | cons a l =>
    intro d hd
    show ∃ e ∈ a :: compG R a l, S e d
    rcases List.mem_cons.1 hd with rfl | hd
    · exact ⟨d, List.mem_cons_self .., hrefl d⟩
    · rcases compG_cover R S hrefl htr l a hs d hd with ⟨e, he, h⟩ | h
      · exact ⟨e, List.mem_cons_of_mem _ he, h⟩
      · exact ⟨a, List.mem_cons_self .., h⟩
end
theorem norm_nd {n : Nat} {d e : CD} (hd : NormD n d) (he : NormD n e) (hq : d.q = e.q) (hq2 : d.q ≠ 2) (hx : d.xs = e.xs) (hk : d.K = e.K) : d = e := by
  obtain ⟨q, M, xs, K⟩ := d
  obtain ⟨q', M', xs', K'⟩ := e
  have h1 : M = 0 := hd.M hq2
  have hq : q = q' := hq
  have h2 : M' = 0 := he.M (by rw [← hq]; exact hq2)
  have hx : xs = xs' := hx
  have hk : K = K' := hk
  subst hq hx hk h1 h2
  rfl
theorem ges_cover {n : Nat} {p : List CD} (hs : Sorted p) (hn : ∀ d ∈ p, NormD n d) : ∀ d ∈ kindGe p, ∃ e ∈ gesD p, e.xs = d.xs ∧ e.K ≤ d.K := by
  refine comp_cover slopeD (fun e d : CD => e.xs = d.xs ∧ e.K ≤ d.K) (fun a => ⟨rfl, Int.le_refl _⟩) (fun a b c h h' => ⟨h.1.trans h'.1, Int.le_trans h.2 h'.2⟩) ?_
  refine List.Pairwise.imp_of_mem (fun {a b} ha hb h hR => ?_) (hs.sublist (kind_ge_sub p))
  have na := hn a ((kind_ge_sub p).subset ha)
  have nb := hn b ((kind_ge_sub p).subset hb)
  have qa := kind_ge_q a ha
  have qb := kind_ge_q b hb
  have hx : b.xs = a.xs := by simpa [slopeD] using hR
  rw [ord_xs (by rw [qa, qb]) (by rw [na.M (by omega), nb.M (by omega)]) (by rw [na.len, nb.len]), hx, if_pos ((lex_zero _ _ rfl).2 rfl)] at h
  refine ⟨hx.symm, ?_⟩
  unfold cmpI at h
  split at h
  · omega
  · split at h <;> omega
theorem equal_cover {n : Nat} {l : List CD} (hs : Sorted l) (hn : ∀ d ∈ l, NormD n d) : ∀ d ∈ l, d ∈ comp equalD l := by
  intro d hd
  obtain ⟨e, he, h⟩ := comp_cover equalD (fun e d : CD => e = d) (fun a => rfl) (fun a b c h h' => h.trans h') (l := l) (by
    refine List.Pairwise.imp_of_mem (fun {a b} ha hb _ hR => ?_) hs
    have na := hn a ha
    have nb := hn b hb
    exact (key_inj nb.q na.q ((equal_iff nb.len na.len).1 hR)).symm) d hd
  rw [← h]; exact he
theorem equal_mem {n : Nat} {l : List CD} (hs : Sorted l) (hn : ∀ d ∈ l, NormD n d) (d : CD) : d ∈ comp equalD l ↔ d ∈ l := ⟨comp_mem, equal_cover hs hn d⟩
theorem kinds_split (p : List CD) : kindEq p ++ (kindGe p ++ kindDv p) = p := by
  unfold kindEq kindGe kindDv
  rw [List.takeWhile_append_dropWhile, List.takeWhile_append_dropWhile]
theorem eqs_mem {p : List CD} (d : CD) : d ∈ eqsIn p ↔ d ∈ kindEq p ∨ d ∈ tightD (gesD p) := by
  unfold eqsIn
  split
  · rw [show sortD (kindEq p ++ tightD (gesD p)) = sortL leD (kindEq p ++ tightD (gesD p)) from rfl, (sortL_perm leD _).mem_iff, List.mem_append]
  · rename_i h
    have : tightD (gesD p) = [] := List.eq_nil_of_length_eq_zero (by omega)
    rw [this]
    simp
theorem slack_elim {l : List CD} {d : CD} {k : Int} (h : slackD l d = some k) : ∃ e ∈ l, e.xs = sgnL (-1) d.xs ∧ k = d.K + e.K := by
  unfold slackD at h
  split at h
  · cases h
  · cases hf : findD l (sgnL (-1) d.xs) with
    | none => rw [hf] at h; cases h
    | some e =>
      rw [hf] at h
      obtain ⟨ht, j, hj⟩ := find_elim hf
      exact ⟨e, List.mem_of_getElem? hj, ht, by simpa using h.symm⟩
theorem tight_elim {l : List CD} {d : CD} (h : d ∈ tightD l) : d.q = 1 ∧ ∃ c ∈ l, slackD l c = some 0 ∧ d.xs = c.xs ∧ d.K = c.K := by
  unfold tightD at h
  obtain ⟨c, hc, h⟩ := List.mem_flatMap.1 h
  unfold tightOne at h
  cases hs : slackD l c with
  | none => rw [hs] at h; cases h
  | some k =>
    rw [hs] at h
    by_cases h0 : k = 0
    · subst h0
      simp only [if_true] at h
      rw [List.mem_singleton] at h
      subst h
      exact ⟨rfl, c, hc, hs, rfl, rfl⟩
    · simp only [if_neg h0] at h
      cases h
theorem tight_intro {l : List CD} {c : CD} (hc : c ∈ l) (h : slackD l c = some 0) : (⟨1, 0, c.xs, c.K⟩ : CD) ∈ tightD l := by
  unfold tightD
  refine List.mem_flatMap.2 ⟨c, hc, ?_⟩
  rw [tight_zero h]
  exact List.mem_singleton_self _
section
variable {n : Nat} {x : List Int} {p : List CD} (hs : Sorted p) (hn : ∀ d ∈ p, NormD n d)
include hs hn
theorem eqs_strict : (eqsD p).Pairwise (fun a b => ordL (keyD a) (keyD b) < 0) := by
  have hnorm := eqs_norm hn
  have h1 := eqs_sorted hs hn
  have : ∀ l : List CD, (∀ d ∈ l, NormD n d ∧ d.q = 1) → Sorted l → (comp equalD l).Pairwise (fun a b => ordL (keyD a) (keyD b) < 0) := fun l hl hsl => by
    have key := comp_strict (fun d : { d : CD // d.xs.length = n } => keyD d.1) (fun a b => equalD a.1 b.1) (n := n + 3) (fun a b => equal_iff a.2 b.2) (l.attachWith _ fun d hd => (hl d hd).1.len) (fun a _ => by rw [key_len, a.2]) (by
      have hsl' : l.Pairwise (fun a b => ordL (keyD a) (keyD b) ≤ 0) := hsl
      rw [List.pairwise_iff_getElem] at hsl' ⊢
      intro i j hi hj hij
      simpa using hsl' i j (by simpa using hi) (by simpa using hj) hij)
    have hm := comp_map (fun a b : { d : CD // d.xs.length = n } => equalD a.1 b.1) (fun a => a.1) equalD (fun _ _ => rfl) (l.attachWith _ fun d hd => (hl d hd).1.len)
    have hv : (l.attachWith _ fun d hd => (hl d hd).1.len).map (fun a : { d : CD // d.xs.length = n } => a.1) = l := by simp
    rw [hv] at hm
    rw [← hm, List.pairwise_map]
    exact key
  exact this _ hnorm h1
omit hs hn in
theorem imp_val {eqs : List CD} {c e : CD} (h : impD eqs c = some e) (he : valD n x e = 0) : e ∈ eqs ∧ c.K - signI c.xs * e.K = valD n x c := by
  unfold impD at h
  obtain ⟨ht, j, hj⟩ := find_elim h
  refine ⟨List.mem_of_getElem? hj, ?_⟩
  unfold valD at he ⊢
  rw [ht, dot_sgn] at he
  have h1 : signI c.xs = 1 ∨ signI c.xs = -1 := by unfold signI; split <;> simp
  rcases h1 with h1 | h1 <;> rw [h1] at he ⊢ <;> omega
theorem dv_sorted : Sorted (kindDv p) := hs.sublist (((List.dropWhile_sublist _).trans (List.dropWhile_sublist _)))
theorem dv_norm : ∀ d ∈ kindDv p, NormD n d := fun d hd => hn d (((List.dropWhile_sublist _).trans (List.dropWhile_sublist _)).subset hd)
end
end Go.Proofs.YtkgnlloioaobiaaGreat
namespace Go.Proofs.YtkgnlloioaobiaaGreat
open Go.RowKit
def insS (c : CD) : List CD → List CD
  | [] => [c]
  | a :: l => if ordD a c < 0 then a :: insS c l else if a = c then a :: l else c :: a :: l
def sortS (l : List CD) : List CD := l.foldl (fun acc c => insS c acc) []
abbrev Strict (l : List CD) : Prop := l.Pairwise fun a b => ordL (keyD a) (keyD b) < 0
theorem insS_mem (c d : CD) : ∀ l : List CD, d ∈ insS c l ↔ d = c ∨ d ∈ l
  | [] => by simp [insS]
  | a :: l => by
    have ih := insS_mem c d l
    unfold insS
    split
    · rw [List.mem_cons, ih, List.mem_cons]
      constructor
      · rintro (h | h | h)
        · exact .inr (.inl h)
        · exact .inl h
        · exact .inr (.inr h)
      · rintro (h | h | h)
        · exact .inr (.inl h)
        · exact .inl h
        · exact .inr (.inr h)
    · split
      · rename_i h
        subst h
        rw [List.mem_cons]
        constructor
        · exact .inr
        · rintro (h | h)
          · exact .inl h
          · exact h
      · rw [List.mem_cons]
theorem lt_le {x y z : List Int} (h1 : x.length = y.length) (h2 : y.length = z.length) (h : ordL x y < 0) (h' : ordL y z ≤ 0) : ordL x z < 0 := by
  have h3 := lex_le x y z h1 h2 (by omega) h'
  rcases Int.lt_or_eq_of_le h3 with h4 | h4
  · exact h4
  · have e := (lex_zero x z (h1.trans h2)).1 h4
    rw [← e, lex_swap] at h'
    omega
theorem insS_strict {n : Nat} {c : CD} (hc : NormD n c) : ∀ l : List CD, (∀ d ∈ l, NormD n d) → Strict l → Strict (insS c l)
  | [], _, _ => by simp [insS, Strict]
  | a :: l, hn, hs => by
    have hp := List.pairwise_cons.1 hs
    have na := hn a (List.mem_cons_self ..)
    have hl := fun d hd => hn d (List.mem_cons_of_mem _ hd)
    have ih := insS_strict hc l hl hp.2
    have hk : ∀ d, NormD n d → (keyD d).length = n + 3 := fun d hd => by rw [key_len, hd.len]
    unfold insS
    rw [ordD_key (by rw [na.len, hc.len])]
    split
    · rename_i hlt
      refine List.pairwise_cons.2 ⟨fun d hd => ?_, ih⟩
      rcases (insS_mem c d l).1 hd with rfl | hd
      · exact hlt
      · exact hp.1 d hd
    · split
      · exact hs
      · rename_i hge hne
        have hca : ordL (keyD c) (keyD a) < 0 := by
          rw [lex_swap]
          have h0 : ordL (keyD a) (keyD c) ≠ 0 := fun h0 => hne (key_inj na.q hc.q ((lex_zero _ _ (by rw [hk a na, hk c hc])).1 h0))
          omega
        refine List.pairwise_cons.2 ⟨fun d hd => ?_, hs⟩
        rcases List.mem_cons.1 hd with rfl | hd
        · exact hca
        · have h1 := hp.1 d hd
          exact lt_le (by rw [hk c hc, hk a na]) (by rw [hk a na, hk d (hl d hd)]) hca (by omega)
theorem sortS_good {n : Nat} (l : List CD) (hn : ∀ d ∈ l, NormD n d) : Strict (sortS l) ∧ (∀ d, d ∈ sortS l ↔ d ∈ l) := by
  have key : ∀ (l acc : List CD), (∀ d ∈ l, NormD n d) → (∀ d ∈ acc, NormD n d) → Strict acc → Strict (l.foldl (fun acc c => insS c acc) acc) ∧ ∀ d, d ∈ l.foldl (fun acc c => insS c acc) acc ↔ d ∈ l ∨ d ∈ acc := by
    intro l
    induction l with
    | nil => intro acc _ _ hs; exact ⟨hs, fun d => by simp⟩
    | cons c l ih =>
      intro acc hl ha hs
      have hc := hl c (List.mem_cons_self ..)
      obtain ⟨h1, h2⟩ := ih (insS c acc) (fun d hd => hl d (List.mem_cons_of_mem _ hd)) (fun d hd => by
        rcases (insS_mem c d acc).1 hd with rfl | hd
        · exact hc
        · exact ha d hd) (insS_strict hc acc ha hs)
      refine ⟨h1, fun d => ?_⟩
      rw [List.foldl_cons, h2, insS_mem, List.mem_cons]
      constructor
      · rintro (h | h | h)
        · exact .inl (.inr h)
        · exact .inl (.inl h)
        · exact .inr h
      · rintro ((h | h) | h)
        · exact .inr (.inl h)
        · exact .inl h
        · exact .inr (.inr h)
  obtain ⟨h1, h2⟩ := key l [] hn (fun d hd => nomatch hd) List.Pairwise.nil
  exact ⟨h1, fun d => by unfold sortS; rw [h2]; simp⟩
theorem insS_at {c : CD} : ∀ (l : List CD) (i : Nat), (∀ (j : Nat) (a : CD), j < i → l[j]? = some a → ordD a c < 0) → i ≤ l.length → insS c l = l.take i ++ insS c (l.drop i)
  | l, 0, _, _ => by simp
  | [], i + 1, _, hi => by simp at hi
  | a :: l, i + 1, h, hi => by
    have h0 := h 0 a (by omega) rfl
    have ih := insS_at l i (fun j b hj hb => h (j + 1) b (by omega) (by simpa using hb)) (by simpa using hi)
    rw [List.take_succ_cons, List.drop_succ_cons, List.cons_append, ← ih]
    show (if ordD a c < 0 then a :: insS c l else _) = _
    rw [if_pos h0]
theorem insS_end {c : CD} {l : List CD} (h : ∀ (j : Nat) (a : CD), j < l.length → l[j]? = some a → ordD a c < 0) : insS c l = l ++ [c] := by
  rw [insS_at l l.length h (Nat.le_refl _)]
  simp [insS]
theorem insS_mid {c a : CD} {l : List CD} {i : Nat} (h : ∀ (j : Nat) (b : CD), j < i → l[j]? = some b → ordD b c < 0) (ha : l[i]? = some a) (h0 : ¬ ordD a c < 0) : insS c l = if a = c then l else l.take i ++ c :: l.drop i := by
  obtain ⟨hi, e⟩ := List.getElem?_eq_some_iff.1 ha
  rw [insS_at l i h (by omega)]
  have hd : l.drop i = a :: l.drop (i + 1) := by rw [← e]; exact List.drop_eq_getElem_cons hi
  rw [hd]
  show l.take i ++ (if ordD a c < 0 then _ else if a = c then a :: l.drop (i + 1) else c :: a :: l.drop (i + 1)) = _
  rw [if_neg h0]
  split
  · rw [← hd, List.take_append_drop]
  · rfl
theorem sortS_snoc {l : List CD} {i : Nat} {c : CD} (h : l[i]? = some c) : sortS (l.take (i + 1)) = insS c (sortS (l.take i)) := by
  unfold sortS
  rw [List.take_add_one, h, List.foldl_append]
  rfl
end Go.Proofs.YtkgnlloioaobiaaGreat
