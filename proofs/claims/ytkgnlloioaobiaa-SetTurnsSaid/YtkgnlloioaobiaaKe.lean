/-
  Part 5 of the texts that the laws stand on.
-/
import Derived.Test.YtkgnlloioaobiaaKd
set_option linter.unusedVariables false
set_option linter.unusedSimpArgs false
set_option maxRecDepth 100000
namespace Go.Proofs.Ytkgnlloioaobiaa
open Go.RowKit
theorem lin_room_c (A : Option Addr) (n c : Nat) (K : Int) (xs : List Int) (i k : Nat) (w : World) (hC : CapOf A n c) (hI : IntsAt w A n xs) (hv : validB xs K = true) (hi : i ≤ n) (hk : n + k ≤ 12) :
    Calls Try.prog 46 #[.agg #[.slice A n c, .int .i64 K], .int .i64 i, .int .i64 k] w fun e w' => RetC w e w' (roomL xs i k) K 0 := by
  have hl := hI.len
  obtain ⟨hnone, hnc, hcc⟩ := hC
  rcases Nat.eq_zero_or_pos n with rfl | h0
  · obtain rfl : xs = [] := List.eq_nil_of_length_eq_zero hl
    obtain rfl : i = 0 := by omega
    cases A with
    | none =>
      obtain ⟨_, rfl⟩ := hnone rfl
      exact lin_room_nil K k w hv (by omega)
    | some ad =>
      obtain ⟨b, off, sp⟩ := ad
      exact lin_room_zero b off sp c (by omega) K k w hv (by omega)
  · obtain ⟨b, off, rfl, hlt, hc⟩ := hI.cells h0
    exact lin_room_ok b off n c K xs i k w hI hlt hc hnc (by omega) hv hi hk
def LinOwn (w : World) (e : Ending) (w' : World) (ys : List Int) (K : Int) : Prop :=
  ∃ A n c, e = .returned (.agg #[.slice A n c, .int .i64 K]) ∧ IntsAt w' A n ys ∧ Below w.heap.size w w' ∧ (n = 0 ∨ ∃ g, A = some ⟨g, 0, none⟩ ∧ w.heap.size ≤ g ∧ OwnRow w' g n ys)
theorem room_fn (A : Option Addr) (n c : Nat) (K : Int) (xs : List Int) (i k bi bk : Nat) (w : World) (hC : CapOf A n c) (hI : IntsAt w A n xs) (hv : validB xs K = true) (hi : i ≤ n) (hk : n + k ≤ 12) (Bi : IBox w bi i) (Bk : IBox w bk k) :
    Calls Try.prog 45 #[.agg #[.slice A n c, .int .i64 K], .pointer (some ⟨bi, 0, none⟩), .pointer (some ⟨bk, 0, none⟩)] w fun e w' => LinOwn w e w' (roomL xs i k) K := by
  have B1 := (LBox.new w A n c K).alloc (.cells #[.slice none 0 0, .int .i64 0] 53)
  have B2 := LBox.new (w.alloc (.cells #[.slice A n c, .int .i64 K] 53)) none 0 0 0
  have hB := below_step (below_alloc w (.cells #[.slice A n c, .int .i64 K] 53)) (below_alloc _ (.cells #[.slice none 0 0, .int .i64 0] 53))
  replace Bi := Bi.step hB
  replace Bk := Bk.step hB
  replace hI := hI.step hB
  rw [World.size_alloc] at B2
  have HR0 := fun (W : World) (h : IntsAt W A n xs) => lin_room_c A n c K xs i k W hC h hv hi hk
  clear hC hv hi hk
  have HR := Lib.hid (fun (W : World) (h : Below ((w.alloc (.cells #[.slice A n c, .int .i64 K] 53)).alloc (.cells #[.slice none 0 0, .int .i64 0] 53)).heap.size ((w.alloc (.cells #[.slice A n c, .int .i64 K] 53)).alloc (.cells #[.slice none 0 0, .int .i64 0] 53)) W) => HR0 W (hI.step h))
  have ci := Bi.c
  have ck := Bk.c
  have c0 := B1.c0
  have c1 := B1.c1
  clear HR0
  go_enter Try.func45, Try.ntmps45
  go_wp2_with (go_at_call 46; refine (HR.out _ (by first | exact Below.refl _ _ | exact (Below.refl _ _).drew | exact below_alloc _ _ | exact (below_alloc _ _).drew)).mono ?_; rintro e w1 ⟨A1, n1, c2, rfl, I1, hb1, hf1, _⟩; have B3 := B2.step hb1; have l2 := B3.lt; have k40 := B3.c0; have k41 := B3.c1; have g40 := B3.f 0; have g41 := B3.f 1; have B4 := (B3.store A1 n1 c2 K).alloc (.cells #[.slice A1 n1 c2, .int .i64 K] 53); have c50 := B4.c0; have c51 := B4.c1)
  have hf6 : n1 = 0 ∨ ∃ g, A1 = some ⟨g, 0, none⟩ ∧ w.heap.size + 1 < g ∧ OwnRow w1 g n1 (roomL xs i k) := hf1.imp id (fun ⟨g, h, h', ho⟩ => ⟨g, h, (by simp at h'; omega), ho⟩)
  have hx := below_alloc ((w1.setCell ⟨w.heap.size + 1, 0, none⟩ (.slice A1 n1 c2)).setCell ⟨w.heap.size + 1, 1, none⟩ (.int .i64 K)) (.cells #[.slice A1 n1 c2, .int .i64 K] 53)
  have hEnd := below_step hB hb1
  refine bodyPost_ret (v := .agg #[.slice A1 n1 c2, .int .i64 K]) (by simp [results, Try.results45, go_sem, c50, c51]) rfl ?_
  exact ⟨A1, n1, c2, rfl, (ints_far I1 (hf6.imp id (fun ⟨g, h, h', _⟩ => ⟨g, h, by omega⟩)) _ _).step hx, below_step (below_store2 hEnd (by omega) _ _) hx, hf6.imp id (fun ⟨g, h, h', ho⟩ => ⟨g, h, by omega, (ho.store2 (by omega) _ _).step hx⟩)⟩
end Go.Proofs.Ytkgnlloioaobiaa
namespace Go.Proofs.Ytkgnlloioaobiaa
open Go.RowKit
theorem make_pcs (n : Nat) (hn : n ≤ 1000) (w : World) :
    (Instr.makeSlice 22 (.int .i64 (n : Int)) (.int .i64 (n : Int))).run Try.prog w = .ok (.slice (some ⟨w.heap.size, 0, none⟩) n n) (w.alloc (.cells (List.replicate n (Value.slice none 0 0)).toArray 40)) := by
  obtain ⟨i0, hi, hz0, hz1, hz2⟩ := info_parts infoPc
  have h := run_make (P := Try.prog) w 22 40 i0 _ Try.underlying22 hi hz0 .i64 .i64 (n : Int) (n : Int) (by omega) (by omega) (by rw [hz2]; omega) (by omega)
  rw [h, hz1]
  have e : madeCells (Value.slice none 0 0).cells (n * 1) = (List.replicate n (Value.slice none 0 0)).toArray := by
    apply Array.ext'
    simp [madeCells, Value.cells, Nat.mod_one, List.eq_replicate_iff]
  simp only [Int.toNat_natCast]
  rw [e]
theorem CL3.own_at {N : Nat} {W : World} {A : Option Addr} {m c : Nat} {els : List CEl} (h : CL3 N W (.slice A m c) els) {j : Nat} {e : CEl} (he : els[j]? = some e) :
    ∃ g, A = some ⟨g, 0, none⟩ ∧ N ≤ g ∧ g < W.heap.size ∧ W.cell? ⟨g, j * 4 + 2, none⟩ = some (.slice e.A e.n e.c) ∧ W.cell? ⟨g, j * 4 + 3, none⟩ = some (.int .i64 e.K) ∧ ∀ k, W.frozen? ⟨g, k, none⟩ = false := by
  have hj := (List.getElem?_eq_some_iff.1 he).1
  have hm := h.conds.1
  subst hm
  rcases h.own.2 with ⟨hv, h0⟩ | ⟨g, cap, cur, hv, hN, hc, _⟩
  · omega
  · cases hv
    obtain ⟨a0, a1, a2, a3⟩ := ccells_at els j e he
    refine ⟨g, rfl, hN, (Array.getElem?_eq_some_iff.1 hc).1, ?_, ?_, fun k => by simp [World.frozen?, hc]⟩
    · have := World.ownsRow.cellAt h.own (j * 4 + 2) (by omega); rw [this]; exact a2
    · have := World.ownsRow.cellAt h.own (j * 4 + 3) (by omega); rw [this]; exact a3
structure ChSt (h : Nat) (D dim : Int) (A : Option Addr) (n c : Nat) (qs : List PEl) (W : World) : Prop where
  s : SetBox W h D A n c
  z : SetBox W (h + 1) 0 none 0 0
  t : SetBox W (h + 1 + 1 + 1) dim (some ⟨h + 1 + 1, 0, none⟩) n n
  q : PM 0 (h + 1 + 1) n W qs
section
variable {h : Nat} {D dim : Int} {A : Option Addr} {n c : Nat} {qs : List PEl} {W W' : World}
theorem ChSt.step (H : ChSt h D dim A n c qs W) (hb : Below W.heap.size W W') : ChSt h D dim A n c qs W' := ⟨H.s.step hb, H.z.step hb, H.t.step hb, H.q.step hb⟩
theorem set_keep {b k : Nat} {D : Int} {A : Option Addr} {n c j : Nat} (h : SetBox W k D A n c) (hk : k ≠ b) (v : Value) : SetBox (W.setCell ⟨b, j, none⟩ v) k D A n c := by
  unfold SetBox at h ⊢
  rw [← h]
  exact Below.heap_setCell _ _ _ k hk
theorem ChSt.put (H : ChSt h D dim A n c qs W) (hl : qs.length < n) {p : PEl} (hp : PieceAny 0 W p) : ChSt h D dim A n c (qs ++ [p]) (W.setCell ⟨h + 1 + 1, qs.length, none⟩ p.v) :=
  ⟨set_keep H.s (by omega) _, set_keep H.z (by omega) _, set_keep H.t (by omega) _, H.q.put hl hp⟩
end
def Typed (us : List CEl) (j : Nat) (W : World) : Prop := ∀ t e, t < j → us[t]? = some e → RowAny 0 W e.A e.n
theorem Typed.step {us : List CEl} {j : Nat} {W W' : World} (h : Typed us j W) (hb : Below W.heap.size W W') : Typed us j W' := fun t e ht he => (h t e ht he).step hb
theorem Typed.put {us : List CEl} {j N g m c : Nat} {W W' : World} (h : Typed us j W) (hL : CL3 N W (.slice (some ⟨g, 0, none⟩) m c) us) (hg : W.grownBy W' (some g)) {u : CEl} (hr : RowAny 0 W u.A u.n) : Typed (us.set j u) (j + 1) W' := by
  have hty : ∀ r, some g = some r → 0 ≤ r ∧ ∃ cur fr, W.heap[r]? = some (.cells cur 55 fr) := fun r e => ⟨Nat.zero_le _, (hL.typed r (by rw [← e]; rfl)).2⟩
  intro t e ht he
  rcases Nat.lt_or_ge t j with hlt | hge
  · rw [List.getElem?_set_ne (by omega)] at he
    exact (h t e hlt he).grown hg hty
  · obtain rfl : t = j := by omega
    have hl : t < us.length := by
      have := (List.getElem?_eq_some_iff.1 he).1
      rwa [List.length_set] at this
    rw [List.getElem?_set_self hl] at he
    cases he
    exact hr.grown hg hty
def ChangedRet (w : World) (e : Ending) (w' : World) (D : Int) (n : Nat) (L : List (List CD)) : Prop :=
  ∃ g qs, e = .returned (setV D (some ⟨g, 0, none⟩) n n) ∧ PiecesAt w' (some ⟨g, 0, none⟩) n qs ∧ (∀ p ∈ qs, PieceAny 0 w' p) ∧ qs.map PEl.dat = L ∧ w.heap.size ≤ g ∧ Below w.heap.size w w'
set_option maxHeartbeats 8000000 in
theorem set_changed (D : Int) (A : Option Addr) (n c : Nat) (ps : List PEl) (dim : Int) (gf : FuncId) (lb : Array Value) (g : List Int → Int → List Int × Int) (hent : Enters Try.prog gf) (w : World) (P : PiecesAt w A n ps) (hn : n ≤ 1000) (hm : ∀ p ∈ ps, p.n ≤ 1000)
    (hf : ∀ W, Below w.heap.size w W → ∀ p ∈ ps, ∀ e ∈ p.els, Calls Try.prog gf (#[.agg #[.slice e.A e.n e.c, .int .i64 e.K]] ++ lb) W fun x W' => LinOwn W x W' (g e.xs e.K).1 (g e.xs e.K).2) :
    Calls Try.prog 44 #[setV D A n c, .int .i64 dim, .func (.func gf) #[] lb] w fun e w' => ChangedRet w e w' dim n (ps.map fun p => p.dat.map (chgD g)) := by
  have hmk := make_pcs n hn
  have hgo : ∀ (args : Array Value) (w : World), (callFunc gf args).run Try.prog w = .ok (.enter gf args) w := hent
  clear hent
  have HF := Lib.hid hf
  have HM := Lib.hid hm
  have HL := Lib.hid P.len
  have hB := below_step (below_step (below_step (below_alloc w (.cells #[.int .i64 D, .slice A n c] 24)) (below_alloc _ (.cells #[.int .i64 0, .slice none 0 0] 24))) (below_alloc _ (.cells (Array.replicate n (Value.slice none 0 0)) 40))) (below_alloc _ (.cells #[.int .i64 dim, .slice (some ⟨w.heap.size + 1 + 1, 0, none⟩) n n] 24))
  have S0 : ChSt w.heap.size D dim A n c [] ((((w.alloc (.cells #[.int .i64 D, .slice A n c] 24)).alloc (.cells #[.int .i64 0, .slice none 0 0] 24)).alloc (.cells (Array.replicate n (Value.slice none 0 0)) 40)).alloc (.cells #[.int .i64 dim, .slice (some ⟨w.heap.size + 1 + 1, 0, none⟩) n n] 24)) := by
    have X1 := (((SetBox.new w D A n c).alloc (.cells #[.int .i64 0, .slice none 0 0] 24)).alloc (.cells (Array.replicate n (Value.slice none 0 0)) 40)).alloc (.cells #[.int .i64 dim, .slice (some ⟨w.heap.size + 1 + 1, 0, none⟩) n n] 24)
    have X2 := ((SetBox.new (w.alloc (.cells #[.int .i64 D, .slice A n c] 24)) 0 none 0 0).alloc (.cells (Array.replicate n (Value.slice none 0 0)) 40)).alloc (.cells #[.int .i64 dim, .slice (some ⟨w.heap.size + 1 + 1, 0, none⟩) n n] 24)
    have X4 := SetBox.new (((w.alloc (.cells #[.int .i64 D, .slice A n c] 24)).alloc (.cells #[.int .i64 0, .slice none 0 0] 24)).alloc (.cells (Array.replicate n (Value.slice none 0 0)) 40)) dim (some ⟨w.heap.size + 1 + 1, 0, none⟩) n n
    have X3 := heap_alloc_new ((w.alloc (.cells #[.int .i64 D, .slice A n c] 24)).alloc (.cells #[.int .i64 0, .slice none 0 0] 24)) (.cells (Array.replicate n (Value.slice none 0 0)) 40)
    simp only [World.size_alloc] at X2 X3 X4
    exact ⟨X1, X2, X4, ⟨(Below.heap_alloc _ _ _ (by simp)).trans (by simpa using X3), Nat.zero_le _, Nat.zero_le _, (fun p h => nomatch h)⟩⟩
  have x0 := S0.s.c0
  have x1 := S0.s.c1
  clear hf hm
  go_enter Try.func44, Try.ntmps44
  go_wp2
  generalize hw0 : (((w.alloc (.cells #[.int .i64 D, .slice A n c] 24)).alloc (.cells #[.int .i64 0, .slice none 0 0] 24)).alloc (.cells (Array.replicate n (Value.slice none 0 0)) 40)).alloc (.cells #[.int .i64 dim, .slice (some ⟨w.heap.size + 1 + 1, 0, none⟩) n n] 24) = w0 at *
  clear hw0 x0 x1
  go_loopw [22] (fun v wr => ∃ (i : Nat) (qs : List PEl), i ≤ n ∧ v = .int .i64 i ∧ Hid (qs.length = i) ∧ ChSt w.heap.size D dim A n c qs wr ∧ Hid (qs.map PEl.dat = (ps.take i).map fun p => p.dat.map (chgD g)) ∧ Below w.heap.size w wr) (fun v _ => n - (intOf v).toNat)
  case atStart => exact ⟨0, [], Nat.zero_le _, rfl, Lib.hid rfl, S0, Lib.hid (by simp), hB⟩
  case round =>
    clear S0 hB
    obtain ⟨i, qs, hi, rfl, HQ, S1, HD, hbr⟩ := hrel
    by_cases hlt : i < n
    · obtain ⟨b, off, p, rfl, hblt, hpj, hmem, hcell, hCp⟩ := (P.step hbr).at hlt
      have HPJ := Lib.hid hpj
      have HPM := Lib.hid hmem
      have hpm := HM.out p hmem
      obtain ⟨pA, pn, pc, pels⟩ := p
      simp only at hcell hCp hpm
      have hq1 : (i : Int) < n := by omega
      have HW := Lib.hid hbr.size
      clear hpj hmem
      go_wp2_with (go_at_call 67; refine (any_clone pA pn pc pels _ hCp hpm).mono ?_; rintro e w1 ⟨qA, qc, rfl, L1, hb1⟩)
      have HS1 := Lib.hid (fun W (hb : Below wr.heap.size w1 W) => S1.step (hb1.trans hb))
      have hb1' := hbr.trans (hb1.mono HW.out)
      have HPL := Lib.hid hCp.len
      have HS0 := Lib.hid hb1.size
      obtain ⟨N, hN⟩ : ∃ N, wr.heap.size = N := ⟨_, rfl⟩
      rw [hN] at L1 HW HS0 HS1
      clear hN
      generalize hw1 : w1 = w1' at *
      clear hw1 hb1 hcell hCp hblt S1
      go_loopw [31] (fun v wt => ∃ (j : Nat) (us : List CEl), j ≤ pn ∧ v = .int .i64 j ∧ CL3 N wt (.slice qA pels.length qc) us ∧ Hid (Chgd g pels us j) ∧ Typed us j wt ∧ Below N w1' wt) (fun v _ => pn - (intOf v).toNat)
      case atStart => exact ⟨0, pels, Nat.zero_le _, rfl, L1, Lib.hid (Chgd.zero g pels), (fun t e h => absurd h (Nat.not_lt_zero _)), Below.refl _ _⟩
      case round =>
        obtain ⟨j, us, hj, rfl, L2, HC, HT, hbt⟩ := hrel
        clear L1
        by_cases hlt2 : j < pn
        · have hbw := hb1'.trans (hbt.mono HW.out)
          obtain ⟨b2, off2, e, hpA, hb2lt, hej, hem, hcs, hin⟩ := ((P.conds _ HPM.out).step hbw).at hlt2
          have hpA : pA = some ⟨b2, off2, none⟩ := hpA
          subst hpA
          obtain ⟨x0, x1, x2, x3⟩ := hcs
          have HEJ := Lib.hid (show pels[j]? = some e from hej)
          have HUE := Lib.hid (HC.out.at HEJ.out)
          have HCN := Lib.hid (fun A n c => HC.out.step HEJ.out A n c)
          obtain ⟨g2, hqA, hgN, hglt, k2, k3, hfz⟩ := L2.own_at HUE.out
          subst hqA
          have b5 := below_alloc wr (.cells #[.int .i64 e.q, .int .i64 e.M, .slice e.A e.n e.c, .int .i64 e.K] 55)
          have X1 := CBox.new wr e.q e.M e.A e.n e.c e.K
          have HFN := Lib.hid (HF.out _ (hbw.trans (b5.mono hbw.size)) _ HPM.out e hem)
          have L3 := L2.step b5
          have T3 := HT.step b5
          have hbt2 := hbt.trans (b5.mono (by have := hbt.size; have := HS0.out; omega))
          obtain ⟨eq, eM, eA, en, ec, eK, exs⟩ := e
          simp only at x0 x1 x2 x3 k2 k3 X1 b5 HFN HCN L3 T3 hbt2
          have hq2 : (j : Int) < pn := by omega
          have hq3 : (j : Int) < (pels.length : Nat) := by rw [HPL.out]; exact hq2
          have c2 := X1.c2
          have c3 := X1.c3
          clear hej hem hin L2 HT k2 k3 hfz hlt2 b5
          go_wp2_with (go_at_fn gf; refine HFN.out.mono ?_; rintro e w3 ⟨A3, n3, c3', rfl, I3, hb3, hf3⟩; have L4 := L3.step hb3; have T4 := T3.step hb3; obtain ⟨g4, hg4, hgN4, hglt4, k2, k3, hfz⟩ := L4.own_at HUE.out; cases hg4; have f2 := hfz (j * 4 + 2); have f3 := hfz (j * 4 + 3); clear x0 x1 x2 x3 c2 c3)
          have hrn : RowAny 0 w3 A3 n3 := .inr (hf3.imp id fun ⟨g', hA, hg, O⟩ => ⟨g', hA, Nat.zero_le _, let ⟨_, cur, hc, hn, _⟩ := O; ⟨cur, hc, hn⟩⟩)
          have L5 := L4.setL HUE.out A3 n3 c3' (g exs eK).2 (g exs eK).1 I3 (hrn.mono (Nat.zero_le _))
          have T5 := T4.put (u := (⟨eq, eM, eA, en, ec, eK, exs⟩ : CEl).withL A3 n3 c3' (g exs eK).2 (g exs eK).1) L4 (grown_set2 w3 g2 (j * 4 + 2) (j * 4 + 3) (.slice A3 n3 c3') (.int .i64 (g exs eK).2)) hrn
          have hb6 := ((hbt2.trans (hb3.mono (by have := hbt2.size; have := HS0.out; omega))).setCell (p := ⟨g2, j * 4 + 2, none⟩) (by show N ≤ g2; omega) (.slice A3 n3 c3')).setCell (p := ⟨g2, j * 4 + 3, none⟩) (by show N ≤ g2; omega) (.int .i64 (g exs eK).2)
          go_roundw
          case rel => exact ⟨j + 1, _, by omega, by go_num, L5, Lib.hid (HCN.out _ _ _), T5, hb6⟩
          case measure => simp [intOf]; omega
        · obtain rfl : j = pn := by omega
          have S3 := HS1.out _ hbt
          have HCA := Lib.hid (HC.out.all HPL.out.symm)
          have HLU := Lib.hid HC.out.len
          have hrow : ∀ e ∈ us, RowAny 0 wr e.A e.n := fun e he => by
            obtain ⟨t, ht, rfl⟩ := List.getElem_of_mem he
            exact (HT t _ (by have := HLU.out; have := HPL.out; omega) (List.getElem?_eq_getElem ht))
          have hpc := PieceAny.of_cl3 L2 hrow
          have hlq : qs.length < n := by have := HQ.out; omega
          have S4 := S3.put hlq hpc
          have k0 := S3.t.c1
          obtain ⟨v0, k1⟩ := S3.q.has hlt
          have f1 := S3.q.f i
          have hbw := (hb1'.trans (hbt.mono HW.out)).setCell (p := ⟨w.heap.size + 1 + 1, i, none⟩) (by show w.heap.size ≤ w.heap.size + 1 + 1; omega) (.slice qA pels.length qc)
          have HDN := Lib.hid (show (qs ++ [(⟨qA, pels.length, qc, us⟩ : PEl)]).map PEl.dat = (ps.take (i + 1)).map fun p => p.dat.map (chgD g) by
            rw [List.map_append, HD.out, List.take_succ_eq_append_getElem (by have := HL.out; omega), List.map_append]
            have h9 := (List.getElem?_eq_some_iff.1 HPJ.out).2
            rw [List.map_singleton, List.map_singleton, h9]
            show _ ++ [us.map CEl.d] = _ ++ [(pels.map CEl.d).map (chgD g)]
            rw [HCA.out, List.map_map]
            rfl)
          have HQN := Lib.hid (show (qs ++ [(⟨qA, pels.length, qc, us⟩ : PEl)]).length = i + 1 by rw [List.length_append, HQ.out]; rfl)
          rw [HQ.out] at S4
          clear S3 hrow hpc hlq
          go_wp2
          go_roundw
          case rel => exact ⟨i + 1, _, by omega, by go_num, HQN, S4, HDN, hbw⟩
          case measure => simp [intOf]; omega
    · obtain rfl : i = n := by omega
      have z0 := S1.z.c0
      have z1 := S1.z.c1
      have f0 := S1.z.f 0
      have f1 := S1.z.f 1
      have t0 := S1.t.c0
      have t1 := S1.t.c1
      have HP := Lib.hid (S1.q.pieces HQ.out (by omega))
      have HOK := Lib.hid S1.q.ok
      have HTK := Lib.hid (show ps.take i = ps from List.take_of_length_le (by rw [HL.out]; exact Nat.le_refl _))
      have h9 := S1.z
      have h8 : ∀ p ∈ qs, PieceAny 0 ((wr.setCell ⟨w.heap.size + 1, 0, none⟩ (.int .i64 dim)).setCell ⟨w.heap.size + 1, 1, none⟩ (.slice (some ⟨w.heap.size + 1 + 1, 0, none⟩) i i)) p := fun p hp => (HOK.out p hp).put (by omega) h9 _ _
      have h7 := pieces_again HP.out (fun p hp => (h8 p hp).conds) (by simp [World.setCell]) (fun _ g' o hA => by cases hA; exact put_other (by omega) _ _)
      have h6 := h9.put dim (some ⟨w.heap.size + 1 + 1, 0, none⟩) i i
      have h5 := hbr.trans (below_put (w := wr) (N := w.heap.size) (b := w.heap.size + 1) (by omega) (.int .i64 dim) (.slice (some ⟨w.heap.size + 1 + 1, 0, none⟩) i i))
      have HX := Lib.hid (And.intro h8 (And.intro h7 h5))
      have v0 := h6.c0
      have v1 := h6.c1
      clear h9 h8 h7 h6 h5
      go_wp2
      refine bodyPost_ret (v := setV dim (some ⟨w.heap.size + 1 + 1, 0, none⟩) i i) (by simp [results, Try.results44, go_sem, v0, v1]) rfl ?_
      exact ⟨_, qs, rfl, HX.out.2.1, HX.out.1, by rw [HD.out, HTK.out], by omega, HX.out.2.2⟩
end Go.Proofs.Ytkgnlloioaobiaa
namespace Go.Proofs.Ytkgnlloioaobiaa
open Go.RowKit
def turnL (xs ord : List Int) : List Int := ord.map fun v => xs[v.toNat]?.getD 0
def turnTo (xs ord : List Int) (n i : Nat) : List Int := (turnL xs ord).take i ++ zeros (n - i)
def OBox (w : World) (b : Nat) (O : Option Addr) (n c : Nat) : Prop := w.heap[b]? = some (.cells #[.slice O n c] 33 (0, 0))
theorem OBox.lt {w : World} {b : Nat} {O : Option Addr} {n c : Nat} (h : OBox w b O n c) : b < w.heap.size := (Array.getElem?_eq_some_iff.1 h).1
theorem OBox.step {w w' : World} {b : Nat} {O : Option Addr} {n c : Nat} (h : OBox w b O n c) (hb : Below w.heap.size w w') : OBox w' b O n c := (hb.block b h.lt).trans h
theorem OBox.c {w : World} {b : Nat} {O : Option Addr} {n c : Nat} (h : OBox w b O n c) : w.cell? ⟨b, 0, none⟩ = some (.slice O n c) := by rw [cell_of_row w b 0 _ _ (0, 0) h]; rfl
theorem turn_len {xs ord : List Int} {n : Nat} (ho : ord.length = n) : (turnL xs ord).length = n := by simp [turnL, ho]
theorem turn_zero (xs ord : List Int) (n : Nat) : turnTo xs ord n 0 = zeros n := by simp [turnTo]
theorem turn_all {xs ord : List Int} {n : Nat} (ho : ord.length = n) : turnTo xs ord n n = turnL xs ord := by simp [turnTo, zeros, List.take_of_length_le (Nat.le_of_eq (turn_len (xs := xs) ho))]
theorem turn_step {xs ord : List Int} {n i : Nat} (ho : ord.length = n) (hi : i < n) : (turnTo xs ord n i).set i (xs[(ord[i]?.getD 0).toNat]?.getD 0) = turnTo xs ord n (i + 1) := by
  have hl := turn_len (xs := xs) ho
  have hz : zeros (n - i) = 0 :: zeros (n - (i + 1)) := by
    have : n - i = (n - (i + 1)) + 1 := by omega
    simp [zeros, this, List.replicate_succ]
  have ht : (turnL xs ord).take (i + 1) = (turnL xs ord).take i ++ [xs[(ord[i]?.getD 0).toNat]?.getD 0] := by
    rw [List.take_succ_eq_append_getElem (by omega)]
    simp [turnL, List.getElem?_eq_getElem (show i < ord.length by omega)]
  unfold turnTo
  rw [ht, hz, List.set_append_right _ _ (by simp [hl]; omega)]
  simp [hl, Nat.min_eq_left (Nat.le_of_lt hi)]
set_option maxHeartbeats 2000000 in
theorem turn_fn (A : Option Addr) (n c : Nat) (K : Int) (xs ord : List Int) (O : Option Addr) (oc bs bo : Nat) (AP : Option Addr) (kp cp : Nat) (w : World) (hI : IntsAt w A n xs) (hO : IntsAt w O n ord) (hr : ∀ v ∈ ord, 0 ≤ v ∧ v < n) (hn : n ≤ 12) (S : SetBox w bs n AP kp cp) (B : OBox w bo O n oc) :
    Calls Try.prog 48 #[.agg #[.slice A n c, .int .i64 K], .pointer (some ⟨bs, 0, none⟩), .pointer (some ⟨bo, 0, none⟩)] w fun e w' => LinOwn w e w' (turnL xs ord) K := by
  have hmk := make_ints n (by omega)
  have B1 := (LBox.new w A n c K).alloc (.cells #[.slice none 0 0, .int .i64 0] 53)
  have B2 := LBox.new (w.alloc (.cells #[.slice A n c, .int .i64 K] 53)) none 0 0 0
  have hB := below_step (below_alloc w (.cells #[.slice A n c, .int .i64 K] 53)) (below_alloc _ (.cells #[.slice none 0 0, .int .i64 0] 53))
  replace S := S.step hB
  replace B := B.step hB
  rw [World.size_alloc] at B2
  have s0 := S.c0
  have b0 := B.c
  have hb3 := below_alloc ((w.alloc (.cells #[.slice A n c, .int .i64 K] 53)).alloc (.cells #[.slice none 0 0, .int .i64 0] 53)) (.cells ((zeros n).map (Value.int .i64)).toArray 3)
  have R3 := OwnRow.new ((w.alloc (.cells #[.slice A n c, .int .i64 K] 53)).alloc (.cells #[.slice none 0 0, .int .i64 0] 53)) (zeros n) n (zeros_len n)
  have B13 := B1.step hb3
  have B23 := B2.step hb3
  have S3 := S.step hb3
  have O3 := B.step hb3
  have b3 := O3.c
  have hB3 := below_step hB hb3
  rw [show ((w.alloc (.cells #[.slice A n c, .int .i64 K] 53)).alloc (.cells #[.slice none 0 0, .int .i64 0] 53)).heap.size = w.heap.size + 1 + 1 by simp] at R3
  have hol := Lib.hid hO.len
  have HRr := Lib.hid hr
  have hsm := hI.small
  rw [← turn_zero xs ord n] at R3
  clear hb3 B1 B2 S B hB
  clear hr
  go_enter Try.func48, Try.ntmps48
  go_wp2
  go_loopw [13] (fun v wr => ∃ i : Nat, i ≤ n ∧ v = .int .i64 i ∧ OwnRow wr (w.heap.size + 1 + 1) n (turnTo xs ord n i) ∧ LBox wr w.heap.size A n c K ∧ LBox wr (w.heap.size + 1) none 0 0 0 ∧ Below w.heap.size w wr) (fun v _ => n - (intOf v).toNat)
  case atStart => exact ⟨0, Nat.zero_le _, rfl, R3, B13, B23, hB3⟩
  case round =>
    obtain ⟨i, hi, rfl, hrow, S1, S2, hBw⟩ := hrel
    by_cases hlt : i < n
    · obtain ⟨bl, off, rfl, hbl, hc⟩ := hI.cells (by omega)
      obtain ⟨bl', off', rfl, hbl', hc'⟩ := hO.cells (by omega)
      have hor := HRr.out (ord[i]?.getD 0) (by rw [List.getElem?_eq_getElem (by have := hol.out; omega)]; exact List.getElem_mem _)
      obtain ⟨m, hm⟩ : ∃ m : Nat, ord[i]?.getD 0 = m := ⟨(ord[i]?.getD 0).toNat, by omega⟩
      have hml : m < n := by rw [hm] at hor; omega
      have hcell := (hBw.cell (p := ⟨bl, off + m, none⟩) hbl).trans (hc m hml)
      have hcell' := (hBw.cell (p := ⟨bl', off' + i, none⟩) hbl').trans (hc' i hlt)
      rw [hm] at hcell'
      have c10 := S1.c0
      have hfr := hrow.free i
      have hcr := hrow.cell hlt
      have q1 : (i : Int) < n := by omega
      have q2 : (m : Int) < n := by omega
      have n0 : w.heap.size + 1 + 1 ≠ w.heap.size := by omega
      clear hc hc' hor
      go_wp2
      have f2 := hrow.set hlt (xs[m]?.getD 0)
      have hts := turn_step (xs := xs) hol.out hlt
      rw [hm, Int.toNat_natCast] at hts
      rw [hts] at f2
      have f3 := S1.other (a := ⟨w.heap.size + 1 + 1, i, none⟩) (show w.heap.size ≠ w.heap.size + 1 + 1 by omega) (.int .i64 (xs[m]?.getD 0))
      have f4 := S2.other (a := ⟨w.heap.size + 1 + 1, i, none⟩) (show w.heap.size + 1 ≠ w.heap.size + 1 + 1 by omega) (.int .i64 (xs[m]?.getD 0))
      have f6 := hBw.setCell (p := ⟨w.heap.size + 1 + 1, i, none⟩) (show w.heap.size ≤ w.heap.size + 1 + 1 by omega) (.int .i64 (xs[m]?.getD 0))
      go_roundw
      case rel => first | exact ⟨i + 1, by omega, by go_num, f2, f3, f4, f6⟩ | exact ⟨i + 1, by omega, by go_num, f2, f3, f4, f6.drew⟩
      case measure => simp [intOf]; omega
    · obtain rfl : i = n := by omega
      rw [turn_all hol.out] at hrow
      have c10 := S1.c0
      have c11 := S1.c1
      have c30 := S2.c0
      have c31 := S2.c1
      have f30 := S2.f 0
      have f31 := S2.f 1
      have c40 := S2.s0 (.slice (some ⟨w.heap.size + 1 + 1, 0, none⟩) i i)
      have c41 := (S2.store (some ⟨w.heap.size + 1 + 1, 0, none⟩) i i K).c1
      have hIr := hI.step hBw
      have hwf : ∀ x ∈ turnL xs ord, -9223372036854775808 ≤ x ∧ x ≤ 9223372036854775807 := fun x hx => by
        obtain ⟨v, _, rfl⟩ := List.mem_map.1 hx
        rcases Nat.lt_or_ge v.toNat xs.length with h | h
        · rw [List.getElem?_eq_getElem h]; exact hI.wf _ (List.getElem_mem _)
        · rw [List.getElem?_eq_none h]; simp
      go_wp2
      refine bodyPost_ret (v := .agg #[.slice (some ⟨w.heap.size + 1 + 1, 0, none⟩) i i, .int .i64 K]) (by simp [results, Try.results48, go_sem, c40, c41]) rfl ?_
      exact ⟨_, _, _, rfl, ints_store2 (hrow.ints hsm hwf) rfl (by omega) _ _, below_store2 hBw (by omega) _ _, .inr ⟨_, rfl, by omega, hrow.store2 (by omega) _ _⟩⟩
end Go.Proofs.Ytkgnlloioaobiaa
namespace Go.Proofs.Ytkgnlloioaobiaa
open Go.RowKit Go.Shelf
theorem valid_els {D : Int} {ps : List PEl} (h : validS D ps = true) : (0 ≤ D ∧ D ≤ 12 ∧ ps.length ≤ 400) ∧ ∀ p ∈ ps, p.els.length ≤ 96 ∧ ∀ e ∈ p.els, validC e.q e.M e.xs e.K = true ∧ (e.n : Int) = D := by
  refine ⟨(valid_parts h).1, fun p hp => ⟨((valid_parts h).2 p hp).2, fun e he => ?_⟩⟩
  unfold validS at h
  rw [Bool.and_eq_true] at h
  have h2 := List.all_eq_true.1 h.2 p hp
  unfold pieceOk at h2
  rw [Bool.and_eq_true] at h2
  have h3 := of_decide_eq_true h2.2
  unfold condsE at h3
  split at h3
  · rename_i hok
    split at h3
    · rename_i hdim
      exact ⟨List.all_eq_true.1 hok e he, by simpa using List.all_eq_true.1 hdim e he⟩
    · omega
  · omega
theorem valid_lin {q M K : Int} {xs : List Int} (h : validC q M xs K = true) : validB xs K = true := (validC_kind h).1
def ShiftRet (w : World) (e : Ending) (w' : World) (D : Int) (r : Int × List (List CD)) : Prop :=
  ∃ A k c qs, e = .returned (.tuple #[setV (if r.1 ≠ 0 then 0 else D) A k c, .int .i64 r.1]) ∧ PiecesAt w' A k qs ∧ (∀ p ∈ qs, PieceAny w.heap.size w' p) ∧ qs.map PEl.dat = (if r.1 ≠ 0 then [] else r.2) ∧ Below w.heap.size w w'
theorem shift_bad {w w' : World} {D er : Int} {l : List (List CD)} (h0 : er ≠ 0) (hb : Below w.heap.size w w') : ShiftRet w (.returned (.tuple #[setV 0 none 0 0, .int .i64 er])) w' D (er, l) :=
  ⟨none, 0, 0, [], by rw [if_pos (show (er, l).1 ≠ 0 from h0)], ⟨rfl, by omega, fun h => absurd h (by omega), (fun p h => nomatch h)⟩, (fun p h => nomatch h), by rw [if_pos (show (er, l).1 ≠ 0 from h0)]; rfl, hb⟩
theorem shift_ok {w w' : World} {D : Int} {A : Option Addr} {k c : Nat} {qs : List PEl} {l : List (List CD)} (hP : PiecesAt w' A k qs) (ho : ∀ p ∈ qs, PieceAny w.heap.size w' p) (hd : qs.map PEl.dat = l) (hb : Below w.heap.size w w') : ShiftRet w (.returned (.tuple #[setV D A k c, .int .i64 0])) w' D (0, l) :=
  ⟨A, k, c, qs, rfl, hP, ho, hd, hb⟩
def roomE (D : Int) (ps : List PEl) (i k : Int) : Int × List (List CD) :=
  if validS D ps = false then (1, []) else if i < 0 ∨ D < i ∨ k < 0 then (6, []) else if 12 - D < k then (3, []) else (0, (ps.map PEl.dat).map fun d => d.map (chgD fun xs K => (roomL xs i.toNat k.toNat, K)))
set_option maxHeartbeats 4000000 in
theorem set_room (D : Int) (A : Option Addr) (n c : Nat) (ps : List PEl) (i k : Int) (w : World) (h : PiecesAt w A n ps) (hC : ∀ p ∈ ps, PieceC p) (hk : -9223372036854775808 ≤ k ∧ k ≤ 9223372036854775807) :
    Calls Try.prog 21 #[setV D A n c, .int .i64 i, .int .i64 k] w fun e w' => ShiftRet w e w' (D + k) (roomE D ps i k) := by
  have hB := below_step (below_step (below_step (below_alloc w (.cells #[.int .i64 D, .slice A n c] 24)) (below_alloc _ (.cells #[.int .i64 i] 3))) (below_alloc _ (.cells #[.int .i64 k] 3))) (below_alloc _ (.cells #[.int .i64 0, .slice none 0 0] 24))
  have X1 := (((SetBox.new w D A n c).alloc (.cells #[.int .i64 i] 3)).alloc (.cells #[.int .i64 k] 3)).alloc (.cells #[.int .i64 0, .slice none 0 0] 24)
  have X2 := ((IBox.new (w.alloc (.cells #[.int .i64 D, .slice A n c] 24)) i).alloc (.cells #[.int .i64 k] 3)).alloc (.cells #[.int .i64 0, .slice none 0 0] 24)
  have X3 := (IBox.new ((w.alloc (.cells #[.int .i64 D, .slice A n c] 24)).alloc (.cells #[.int .i64 i] 3)) k).alloc (.cells #[.int .i64 0, .slice none 0 0] 24)
  have X4 := SetBox.new (((w.alloc (.cells #[.int .i64 D, .slice A n c] 24)).alloc (.cells #[.int .i64 i] 3)).alloc (.cells #[.int .i64 k] 3)) 0 none 0 0
  simp only [World.size_alloc] at X2 X3 X4
  have P1 := h.step hB
  have x0 := X1.c0
  have x1 := X1.c1
  have x2 := X2.c
  have x3 := X3.c
  have HCC := Lib.hid hC
  clear h hC
  cases hv : validS D ps
  · have HV := Lib.hid hv
    have HR := Lib.hid (show roomE D ps i k = (1, []) by unfold roomE; rw [if_pos hv])
    rw [HR.out]
    clear hv
    go_enter Try.func21, Try.ntmps21
    go_wp2_with (first | (go_at_call 16; refine (set_valid D A n c ps _ P1).mono ?_; rintro e w1 ⟨rfl, hb1⟩; rw [HV.out]; replace hB := below_step hB hb1; have P2 := P1.step hb1; have Y1 := X1.step hb1; have Y2 := X2.step hb1; have Y3 := X3.step hb1; have Y4 := X4.step hb1; clear x0 x1 x2 x3; have c0 := Y1.c0; have c1 := Y1.c1; have ci := Y2.c; have ck := Y3.c; have z0 := Y4.c0; have z1 := Y4.c1; have f0 := Y4.f 0; have f1 := Y4.f 1))
    have X5 := Y4.put 0 none 0 0; have hb8 := below_put (w := w1) (N := w.heap.size) (b := w.heap.size + 1 + 1 + 1) (by omega) (.int .i64 0) (.slice none 0 0); generalize (w1.setCell ⟨w.heap.size + 1 + 1 + 1, 0, none⟩ (.int .i64 0)).setCell ⟨w.heap.size + 1 + 1 + 1, 1, none⟩ (.slice none 0 0) = w5 at *; have y0 := X5.c0; have y1 := X5.c1; try rw [Exit.noGoto_ret]
    refine bodyPost_ret (v := .tuple #[setV 0 none 0 0, .int .i64 1]) (by simp [results, Try.results21, go_sem, y0, y1]) rfl ?_
    exact shift_bad (by decide) (hB.trans hb8)
  · have HV := Lib.hid hv
    have hE := valid_els hv
    obtain ⟨hD0, hD1, hL⟩ := hE.1
    have HE := Lib.hid hE.2
    have HL := Lib.hid hL
    have s1 : IntKind.i64.wrap (12 - D) = 12 - D := IntWalk.i64_in _ (by omega)
    by_cases hr : i < 0 ∨ D < i ∨ k < 0
    · have HR := Lib.hid (show roomE D ps i k = (6, []) by unfold roomE; rw [if_neg (by rw [hv]; simp), if_pos hr])
      rw [HR.out]
      clear hv hE hL
      go_enter Try.func21, Try.ntmps21
      rcases hr with hr | hr
      · go_wp2_with (first | (go_at_call 16; refine (set_valid D A n c ps _ P1).mono ?_; rintro e w1 ⟨rfl, hb1⟩; rw [HV.out]; replace hB := below_step hB hb1; have P2 := P1.step hb1; have Y1 := X1.step hb1; have Y2 := X2.step hb1; have Y3 := X3.step hb1; have Y4 := X4.step hb1; clear x0 x1 x2 x3; have c0 := Y1.c0; have c1 := Y1.c1; have ci := Y2.c; have ck := Y3.c; have z0 := Y4.c0; have z1 := Y4.c1; have f0 := Y4.f 0; have f1 := Y4.f 1))
        have X5 := Y4.put 0 none 0 0; have hb8 := below_put (w := w1) (N := w.heap.size) (b := w.heap.size + 1 + 1 + 1) (by omega) (.int .i64 0) (.slice none 0 0); generalize (w1.setCell ⟨w.heap.size + 1 + 1 + 1, 0, none⟩ (.int .i64 0)).setCell ⟨w.heap.size + 1 + 1 + 1, 1, none⟩ (.slice none 0 0) = w5 at *; have y0 := X5.c0; have y1 := X5.c1; try rw [Exit.noGoto_ret]
        refine bodyPost_ret (v := .tuple #[setV 0 none 0 0, .int .i64 6]) (by simp [results, Try.results21, go_sem, y0, y1]) rfl ?_
        exact shift_bad (by decide) (hB.trans hb8)
      · by_cases hi : i < 0
        · clear hr
          go_wp2_with (first | (go_at_call 16; refine (set_valid D A n c ps _ P1).mono ?_; rintro e w1 ⟨rfl, hb1⟩; rw [HV.out]; replace hB := below_step hB hb1; have P2 := P1.step hb1; have Y1 := X1.step hb1; have Y2 := X2.step hb1; have Y3 := X3.step hb1; have Y4 := X4.step hb1; clear x0 x1 x2 x3; have c0 := Y1.c0; have c1 := Y1.c1; have ci := Y2.c; have ck := Y3.c; have z0 := Y4.c0; have z1 := Y4.c1; have f0 := Y4.f 0; have f1 := Y4.f 1))
          have X5 := Y4.put 0 none 0 0; have hb8 := below_put (w := w1) (N := w.heap.size) (b := w.heap.size + 1 + 1 + 1) (by omega) (.int .i64 0) (.slice none 0 0); generalize (w1.setCell ⟨w.heap.size + 1 + 1 + 1, 0, none⟩ (.int .i64 0)).setCell ⟨w.heap.size + 1 + 1 + 1, 1, none⟩ (.slice none 0 0) = w5 at *; have y0 := X5.c0; have y1 := X5.c1; try rw [Exit.noGoto_ret]
          refine bodyPost_ret (v := .tuple #[setV 0 none 0 0, .int .i64 6]) (by simp [results, Try.results21, go_sem, y0, y1]) rfl ?_
          exact shift_bad (by decide) (hB.trans hb8)
        · by_cases hi2 : D < i
          · clear hr
            go_wp2_with (first | (go_at_call 16; refine (set_valid D A n c ps _ P1).mono ?_; rintro e w1 ⟨rfl, hb1⟩; rw [HV.out]; replace hB := below_step hB hb1; have P2 := P1.step hb1; have Y1 := X1.step hb1; have Y2 := X2.step hb1; have Y3 := X3.step hb1; have Y4 := X4.step hb1; clear x0 x1 x2 x3; have c0 := Y1.c0; have c1 := Y1.c1; have ci := Y2.c; have ck := Y3.c; have z0 := Y4.c0; have z1 := Y4.c1; have f0 := Y4.f 0; have f1 := Y4.f 1))
            have X5 := Y4.put 0 none 0 0; have hb8 := below_put (w := w1) (N := w.heap.size) (b := w.heap.size + 1 + 1 + 1) (by omega) (.int .i64 0) (.slice none 0 0); generalize (w1.setCell ⟨w.heap.size + 1 + 1 + 1, 0, none⟩ (.int .i64 0)).setCell ⟨w.heap.size + 1 + 1 + 1, 1, none⟩ (.slice none 0 0) = w5 at *; have y0 := X5.c0; have y1 := X5.c1; try rw [Exit.noGoto_ret]
            refine bodyPost_ret (v := .tuple #[setV 0 none 0 0, .int .i64 6]) (by simp [results, Try.results21, go_sem, y0, y1]) rfl ?_
            exact shift_bad (by decide) (hB.trans hb8)
          · have hk0 : k < 0 := by omega
            clear hr
            go_wp2_with (first | (go_at_call 16; refine (set_valid D A n c ps _ P1).mono ?_; rintro e w1 ⟨rfl, hb1⟩; rw [HV.out]; replace hB := below_step hB hb1; have P2 := P1.step hb1; have Y1 := X1.step hb1; have Y2 := X2.step hb1; have Y3 := X3.step hb1; have Y4 := X4.step hb1; clear x0 x1 x2 x3; have c0 := Y1.c0; have c1 := Y1.c1; have ci := Y2.c; have ck := Y3.c; have z0 := Y4.c0; have z1 := Y4.c1; have f0 := Y4.f 0; have f1 := Y4.f 1))
            have X5 := Y4.put 0 none 0 0; have hb8 := below_put (w := w1) (N := w.heap.size) (b := w.heap.size + 1 + 1 + 1) (by omega) (.int .i64 0) (.slice none 0 0); generalize (w1.setCell ⟨w.heap.size + 1 + 1 + 1, 0, none⟩ (.int .i64 0)).setCell ⟨w.heap.size + 1 + 1 + 1, 1, none⟩ (.slice none 0 0) = w5 at *; have y0 := X5.c0; have y1 := X5.c1; try rw [Exit.noGoto_ret]
            refine bodyPost_ret (v := .tuple #[setV 0 none 0 0, .int .i64 6]) (by simp [results, Try.results21, go_sem, y0, y1]) rfl ?_
            exact shift_bad (by decide) (hB.trans hb8)
    · have hi0 : ¬ i < 0 := by omega
      have hi1 : ¬ D < i := by omega
      have hk0 : ¬ k < 0 := by omega
      by_cases hf : 12 - D < k
      · have HR := Lib.hid (show roomE D ps i k = (3, []) by unfold roomE; rw [if_neg (by rw [hv]; simp), if_neg hr, if_pos hf])
        rw [HR.out]
        clear hv hE hL hr
        go_enter Try.func21, Try.ntmps21
        go_wp2_with (first | (go_at_call 16; refine (set_valid D A n c ps _ P1).mono ?_; rintro e w1 ⟨rfl, hb1⟩; rw [HV.out]; replace hB := below_step hB hb1; have P2 := P1.step hb1; have Y1 := X1.step hb1; have Y2 := X2.step hb1; have Y3 := X3.step hb1; have Y4 := X4.step hb1; clear x0 x1 x2 x3; have c0 := Y1.c0; have c1 := Y1.c1; have ci := Y2.c; have ck := Y3.c; have z0 := Y4.c0; have z1 := Y4.c1; have f0 := Y4.f 0; have f1 := Y4.f 1))
        have X5 := Y4.put 0 none 0 0; have hb8 := below_put (w := w1) (N := w.heap.size) (b := w.heap.size + 1 + 1 + 1) (by omega) (.int .i64 0) (.slice none 0 0); generalize (w1.setCell ⟨w.heap.size + 1 + 1 + 1, 0, none⟩ (.int .i64 0)).setCell ⟨w.heap.size + 1 + 1 + 1, 1, none⟩ (.slice none 0 0) = w5 at *; have y0 := X5.c0; have y1 := X5.c1; try rw [Exit.noGoto_ret]
        refine bodyPost_ret (v := .tuple #[setV 0 none 0 0, .int .i64 3]) (by simp [results, Try.results21, go_sem, y0, y1]) rfl ?_
        exact shift_bad (by decide) (hB.trans hb8)
      · have HR := Lib.hid (show roomE D ps i k = (0, (ps.map PEl.dat).map fun d => d.map (chgD fun xs K => (roomL xs i.toNat k.toNat, K))) by unfold roomE; rw [if_neg (by rw [hv]; simp), if_neg hr, if_neg hf])
        rw [HR.out]
        have s2 : IntKind.i64.wrap (D + k) = D + k := IntWalk.i64_in _ (by omega)
        obtain ⟨i', rfl⟩ : ∃ m : Nat, i = m := ⟨i.toNat, by omega⟩
        obtain ⟨k', rfl⟩ : ∃ m : Nat, k = m := ⟨k.toNat, by omega⟩
        have HN := Lib.hid (show n ≤ 1000 by have := P1.len; omega)
        have HM := Lib.hid (fun p (hp : p ∈ ps) => (show p.n ≤ 1000 by have := (HE.out p hp).1; have := (P1.conds p hp).len; omega))
        have HF := Lib.hid (fun (w1 : World) (P2 : PiecesAt w1 A n ps) (Y2 : IBox w1 (w.heap.size + 1) (i' : Int)) (Y3 : IBox w1 (w.heap.size + 1 + 1) (k' : Int)) (W : World) (hb : Below w1.heap.size w1 W) (p : PEl) (hp : p ∈ ps) (e : CEl) (he : e ∈ p.els) =>
          (show Calls Try.prog 45 (#[.agg #[.slice e.A e.n e.c, .int .i64 e.K]] ++ #[.pointer (some ⟨w.heap.size + 1, 0, none⟩), .pointer (some ⟨w.heap.size + 1 + 1, 0, none⟩)]) W fun x W' => LinOwn W x W' (roomL e.xs i' k') e.K from
            have hx := (HE.out p hp).2 e he
            room_fn e.A e.n e.c e.K e.xs i' k' _ _ W ((HCC.out p hp).2.2 e he) (((P2.conds p hp).ints e he).step hb) (valid_lin hx.1) (by have := hx.2; omega) (by have := hx.2; omega) (Y2.step hb) (Y3.step hb)))
        clear hv hE hL hr
        go_enter Try.func21, Try.ntmps21
        go_wp2_with (first
          | (go_at_call 16; refine (set_valid D A n c ps _ P1).mono ?_; rintro e w1 ⟨rfl, hb1⟩; rw [HV.out]; replace hB := below_step hB hb1; have P2 := P1.step hb1; have Y1 := X1.step hb1; have Y2 := X2.step hb1; have Y3 := X3.step hb1; have Y4 := X4.step hb1; clear x0 x1 x2 x3; have c0 := Y1.c0; have c1 := Y1.c1; have ci := Y2.c; have ck := Y3.c; have z0 := Y4.c0; have z1 := Y4.c1; have f0 := Y4.f 0; have f1 := Y4.f 1)
          | (go_at_call 44; refine (set_changed D A n c ps (D + (k' : Int)) _ _ (fun xs K => (roomL xs i' k', K)) (enters_of Try.func45 (by kernel_rfl) rfl) w1 P2 HN.out HM.out (HF.out w1 P2 Y2 Y3)).mono ?_; rintro e w3 ⟨g, qs, rfl, hP3, hok3, hd3, hg3, hb3⟩; have Z4 := Y4.step hb3; clear z0 z1 f0 f1; have z0 := Z4.c0; have z1 := Z4.c1; have f0 := Z4.f 0; have f1 := Z4.f 1))
        have X5 := Z4.put (D + (k' : Int)) (some ⟨g, 0, none⟩) n n
        have hsz := Z4.lt
        have hsz1 := Y4.lt
        have hb1 : w.heap.size ≤ w1.heap.size := by omega
        have hok5 : ∀ p ∈ qs, PieceAny 0 ((w3.setCell ⟨w.heap.size + 1 + 1 + 1, 0, none⟩ (.int .i64 (D + (k' : Int)))).setCell ⟨w.heap.size + 1 + 1 + 1, 1, none⟩ (.slice (some ⟨g, 0, none⟩) n n)) p := fun p hp => (hok3 p hp).put (Nat.zero_le _) Z4 _ _
        have hP5 := pieces_again hP3 (fun p hp => (hok5 p hp).conds) (by simp [World.setCell]) (fun _ g' o hA => by cases hA; exact put_other (by omega) _ _)
        have hb5 := (below_step hB hb3).trans (below_put (w := w3) (N := w.heap.size) (b := w.heap.size + 1 + 1 + 1) (by omega) (.int .i64 (D + (k' : Int))) (.slice (some ⟨g, 0, none⟩) n n))
        generalize (w3.setCell ⟨w.heap.size + 1 + 1 + 1, 0, none⟩ (.int .i64 (D + (k' : Int)))).setCell ⟨w.heap.size + 1 + 1 + 1, 1, none⟩ (.slice (some ⟨g, 0, none⟩) n n) = w5 at *
        have y0 := X5.c0
        have y1 := X5.c1
        refine bodyPost_ret (v := .tuple #[setV (D + (k' : Int)) (some ⟨g, 0, none⟩) n n, .int .i64 0]) (by simp [results, Try.results21, go_sem, y0, y1]) rfl ?_
        exact shift_ok hP5 (fun p hp => (hok5 p hp).mono (Nat.zero_le _)) (by rw [hd3, List.map_map]; rfl) hb5
end Go.Proofs.Ytkgnlloioaobiaa
namespace Go.Proofs.Ytkgnlloioaobiaa
structure EState (a b g rest x next : Int) (s t u : Int) (G R X N : Nat) : Prop where
  hs : s = 1 ∨ s = -1
  ht : t = 1 ∨ t = -1
  hu : u = 1 ∨ u = -1
  eg : g = s * G
  er : rest = t * R
  ex : x = u * X
  en : next = -(s * t * u) * N
  det : G * N + R * X = b.natAbs
  gcd : Nat.gcd G R = Nat.gcd a.natAbs b.natAbs
  c1 : b ∣ g - a * x
  c2 : b ∣ rest - a * next
  bX : X ≤ 1048576
  bN : N ≤ 1048576
  bG : G ≤ 1048576
  bR : R ≤ 1048576
theorem sign_of (a : Int) : ∃ s : Int, (s = 1 ∨ s = -1) ∧ a = s * a.natAbs := by
  by_cases h : 0 ≤ a
  · exact ⟨1, .inl rfl, by omega⟩
  · exact ⟨-1, .inr rfl, by omega⟩
theorem EState.start (a b : Int) (ha : a.natAbs ≤ 1048576) (hb : b.natAbs ≤ 1048576) : ∃ s t, EState a b a b 1 0 s t 1 a.natAbs b.natAbs 1 0 := by
  obtain ⟨s, hs, es⟩ := sign_of a
  obtain ⟨t, ht, et⟩ := sign_of b
  refine ⟨s, t, ⟨hs, ht, .inl rfl, es, et, by simp, by simp, by simp, rfl, by simp, by simp, by omega, by omega, ha, hb⟩⟩
theorem tdiv_signs {s t : Int} (hs : s = 1 ∨ s = -1) (ht : t = 1 ∨ t = -1) (G R : Nat) : (s * G).tdiv (t * R) = s * t * ((G / R : Nat) : Int) := by
  rcases hs with rfl | rfl <;> rcases ht with rfl | rfl <;> simp [Int.neg_tdiv, Int.tdiv_neg]
theorem EState.next_eq {a b g rest x next s t u : Int} {G R X N : Nat} (h : EState a b g rest x next s t u G R X N) :
    x - g.tdiv rest * next = u * ((X + G / R * N : Nat) : Int) := by
  rw [h.eg, h.er, tdiv_signs h.hs h.ht, h.ex, h.en, Int.natCast_add, Int.natCast_mul]
  generalize ((G / R : Nat) : Int) = q
  rcases h.hs with rfl | rfl <;> rcases h.ht with rfl | rfl <;> rcases h.hu with rfl | rfl <;> simp [Int.neg_mul, Int.mul_neg] <;> omega
theorem EState.rest_eq {a b g rest x next s t u : Int} {G R X N : Nat} (h : EState a b g rest x next s t u G R X N) :
    g - g.tdiv rest * rest = s * ((G % R : Nat) : Int) := by
  have e := Nat.div_add_mod G R
  have e' : ((G : Nat) : Int) = (R : Int) * ((G / R : Nat) : Int) + ((G % R : Nat) : Int) := by rw [← Int.natCast_mul, ← Int.natCast_add, e]
  rw [h.eg, h.er, tdiv_signs h.hs h.ht]
  have e2 : ((G / R : Nat) : Int) * (R : Int) = (G : Int) - ((G % R : Nat) : Int) := by rw [Int.mul_comm]; omega
  generalize ((G / R : Nat) : Int) = q at *
  rcases h.hs with rfl | rfl <;> rcases h.ht with rfl | rfl <;> simp [Int.neg_mul, Int.mul_neg] <;> omega
theorem EState.step {a b g rest x next s t u : Int} {G R X N : Nat} (h : EState a b g rest x next s t u G R X N) (hR : R ≠ 0) (hb : b.natAbs ≤ 1048576) :
    EState a b rest (g - g.tdiv rest * rest) next (x - g.tdiv rest * next) t s (-(s * t * u)) R (G % R) N (X + G / R * N) := by
  have e := Nat.div_add_mod G R
  have hdet : R * (X + G / R * N) + G % R * N = b.natAbs := by
    rw [← h.det]
    have : G * N = R * (G / R) * N + G % R * N := by rw [← Nat.add_mul, e]
    rw [this, Nat.mul_add, Nat.mul_assoc]; omega
  have hN : X + G / R * N ≤ 1048576 := by
    have h2 : 1 * (X + G / R * N) ≤ R * (X + G / R * N) := Nat.mul_le_mul_right _ (by omega)
    omega
  refine ⟨h.ht, h.hs, ?_, h.er, h.rest_eq, ?_, ?_, hdet, ?_, ?_, ?_, h.bN, hN, h.bR, ?_⟩
  · rcases h.hs with rfl | rfl <;> rcases h.ht with rfl | rfl <;> rcases h.hu with rfl | rfl <;> simp
  · exact h.en
  · rw [h.next_eq]
    rcases h.hs with rfl | rfl <;> rcases h.ht with rfl | rfl <;> rcases h.hu with rfl | rfl <;> simp
  · rw [← h.gcd, Nat.gcd_comm G R]
    rw [Nat.gcd_rec R G]; exact Nat.gcd_comm _ _
  · exact h.c2
  · have e1 : g - g.tdiv rest * rest - a * (x - g.tdiv rest * next) = (g - a * x) - g.tdiv rest * (rest - a * next) := by
      simp only [Int.mul_sub, Int.mul_left_comm a]; omega
    rw [e1]
    exact Int.dvd_sub h.c1 (Int.dvd_mul_of_dvd_right h.c2)
  · have := Nat.mod_lt G (Nat.pos_of_ne_zero hR); have := h.bR; omega
structure IsSplit (a b : Int) (g : Nat) (x : Int) : Prop where
  gcd : g = Nat.gcd a.natAbs b.natAbs
  dvd : b ∣ (g : Int) - a * x
  lo : 0 ≤ x
  hi : x < ((b.natAbs / g : Nat) : Int)
theorem gcd_pos {a b : Int} (hb : b ≠ 0) : 0 < Nat.gcd a.natAbs b.natAbs := Nat.gcd_pos_of_pos_right _ (by omega)
theorem mod_split {a b x0 : Int} (hb : b ≠ 0) (h : b ∣ (Nat.gcd a.natAbs b.natAbs : Int) - a * x0) :
    IsSplit a b (Nat.gcd a.natAbs b.natAbs) (x0 % ((b.natAbs / Nat.gcd a.natAbs b.natAbs : Nat) : Int)) := by
  have hg := gcd_pos (a := a) hb
  generalize hgd : Nat.gcd a.natAbs b.natAbs = g at *
  have ga : g ∣ a.natAbs := hgd ▸ Nat.gcd_dvd_left _ _
  have gb : g ∣ b.natAbs := hgd ▸ Nat.gcd_dvd_right _ _
  have eb : g * (b.natAbs / g) = b.natAbs := Nat.mul_div_cancel' gb
  have hd : 0 < b.natAbs / g := Nat.div_pos (Nat.le_of_dvd (by omega) gb) hg
  generalize hdd : b.natAbs / g = d at *
  refine ⟨hgd.symm, ?_, Int.emod_nonneg _ (by omega), ?_⟩
  rotate_left
  · have e0 : (b.natAbs / g : Nat) = d := hdd
    rw [e0]; exact Int.emod_lt_of_pos x0 (show (0 : Int) < d by omega)
  have e : (g : Int) - a * (x0 % (d : Int)) = ((g : Int) - a * x0) + a * (d : Int) * (x0 / (d : Int)) := by
    have := Int.mul_ediv_add_emod x0 (d : Int)
    have h2 : a * x0 = a * ((d : Int) * (x0 / (d : Int)) + x0 % (d : Int)) := by rw [this]
    rw [Int.mul_add, ← Int.mul_assoc] at h2
    omega
  rw [e]
  refine Int.dvd_add h (Int.dvd_mul_of_dvd_left ?_)
  obtain ⟨k, hk⟩ := Int.ofNat_dvd_left.2 ga
  have e2 : a * (d : Int) = k * ((b.natAbs : Nat) : Int) := by
    rw [hk, ← eb, Int.natCast_mul, Int.mul_comm (g : Int) k, Int.mul_assoc]
  rw [e2]
  exact Int.dvd_mul_of_dvd_right (Int.dvd_natAbs_self)
theorem IsSplit.least {a b x y : Int} {g : Nat} (hb : b ≠ 0) (h : IsSplit a b g x) (h0 : 0 ≤ y) (hy : y < x) : ¬ b ∣ (g : Int) - a * y := by
  intro hd
  have hg : 0 < g := h.gcd ▸ gcd_pos hb
  have h1 : b ∣ a * (x - y) := by
    have := Int.dvd_sub hd h.dvd
    have e : (g : Int) - a * y - ((g : Int) - a * x) = a * (x - y) := by rw [Int.mul_sub]; omega
    rwa [e] at this
  have h2 : b.natAbs ∣ a.natAbs * (x - y).natAbs := by rw [← Int.natAbs_mul]; exact Int.natAbs_dvd_natAbs.2 h1
  have ga : g ∣ a.natAbs := h.gcd ▸ Nat.gcd_dvd_left _ _
  have gb : g ∣ b.natAbs := h.gcd ▸ Nat.gcd_dvd_right _ _
  have co : Nat.Coprime (a.natAbs / g) (b.natAbs / g) := by rw [h.gcd]; exact Nat.coprime_div_gcd_div_gcd (gcd_pos hb)
  have eb : g * (b.natAbs / g) = b.natAbs := Nat.mul_div_cancel' gb
  have ea : g * (a.natAbs / g) = a.natAbs := Nat.mul_div_cancel' ga
  have hi := h.hi
  rw [← eb, ← ea, Nat.mul_assoc] at h2
  have h3 := Nat.dvd_of_mul_dvd_mul_left hg h2
  have h4 := co.symm.dvd_of_dvd_mul_left h3
  have := Nat.le_of_dvd (by omega) h4
  omega
theorem IsSplit.unique {a b x y : Int} {g g' : Nat} (hb : b ≠ 0) (h : IsSplit a b g x) (h' : IsSplit a b g' y) : g = g' ∧ x = y := by
  have e : g = g' := h.gcd.trans h'.gcd.symm
  subst e
  refine ⟨rfl, ?_⟩
  rcases Int.lt_trichotomy x y with hl | he | hl
  · exact absurd h.dvd (h'.least hb h.lo hl)
  · exact he
  · exact absurd h'.dvd (h.least hb h'.lo hl)
end Go.Proofs.Ytkgnlloioaobiaa
namespace Go.Proofs.Ytkgnlloioaobiaa
open Go.RowKit
theorem EState.done {a b g x next s t u : Int} {G X N : Nat} (h : EState a b g 0 x next s t u G 0 X N) (hb : b ≠ 0) :
    G = Nat.gcd a.natAbs b.natAbs ∧ ((g = G ∧ ∀ y, IsSplit a b G y → x % ((b.natAbs / G : Nat) : Int) = y) ∨ (g = -(G : Int) ∧ ∀ y, IsSplit a b G y → (-x) % ((b.natAbs / G : Nat) : Int) = y)) := by
  have e : G = Nat.gcd a.natAbs b.natAbs := by rw [← h.gcd]; simp
  refine ⟨e, ?_⟩
  have hc := h.c1
  have hg := h.eg
  rcases h.hs with hs | hs
  · rw [hs] at hg
    refine .inl ⟨by omega, fun y hy => ?_⟩
    have h1 := mod_split (a := a) (b := b) (x0 := x) hb (by rw [← e]; have : (G : Int) - a * x = g - a * x := by omega
                                                            rw [this]; exact hc)
    rw [← e] at h1
    exact (h1.unique hb hy).2
  · rw [hs] at hg
    refine .inr ⟨by omega, fun y hy => ?_⟩
    have h1 := mod_split (a := a) (b := b) (x0 := -x) hb (by rw [← e, Int.mul_neg]; have : (G : Int) - -(a * x) = -(g - a * x) := by omega
                                                             rw [this]; exact Int.dvd_neg.2 hc)
    rw [← e] at h1
    exact (h1.unique hb hy).2
end Go.Proofs.Ytkgnlloioaobiaa
namespace Go.Proofs.Ytkgnlloioaobiaa
open Go.RowKit
theorem grown_cell (w : World) (a : Addr) (u : Value) : w.grownBy (w.setCell a u) (some a.block) :=
  ⟨rfl, rfl, rfl, by simp [World.setCell], fun k hk hne => Below.heap_setCell w a u k (fun e => hne (by rw [e]))⟩
theorem LBox.set0 {w : World} {b : Nat} {A : Option Addr} {n c : Nat} {K : Int} (h : LBox w b A n c K) (A' : Option Addr) (n' c' : Nat) : LBox (w.setCell ⟨b, 0, none⟩ (.slice A' n' c')) b A' n' c' K := by
  unfold LBox at h ⊢
  simp only [World.setCell]
  rw [Array.getElem?_modify, if_pos rfl, h]
  rfl
theorem own_fresh {w : World} {B n : Nat} {t : TypeId} {A : Option Addr} {m c : Nat} {xs : List Value} (h : w.ownsRow B t 1 (.slice A m c) n xs) : n = 0 ∨ ∃ g, A = some ⟨g, 0, none⟩ ∧ B ≤ g := by
  rcases h.2 with ⟨_, h0⟩ | ⟨g, cap, cur, e, hb, _⟩
  · exact .inl h0
  · simp only [Value.slice.injEq] at e
    exact .inr ⟨g, e.1, hb⟩
theorem ints_keep2 {w : World} {b n : Nat} {xs : List Int} {A : Option Addr} (h : IntsAt w A n xs) (hf : n = 0 ∨ ∃ g, A = some ⟨g, 0, none⟩ ∧ b ≠ g) (u v : Value) : IntsAt ((w.setCell ⟨b, 0, none⟩ u).setCell ⟨b, 1, none⟩ v) A n xs := by
  rcases hf with h0 | ⟨g, rfl, hne⟩
  · exact ⟨h.len, h.small, h.wf, fun hn => absurd hn (by omega)⟩
  · exact ints_store2 h rfl hne u v
end Go.Proofs.Ytkgnlloioaobiaa
namespace Go.Proofs.Ytkgnlloioaobiaa
open Go.RowKit
theorem zeroCells_vals (k : Nat) : Builtin.zeroCells (Value.int .i64 0).cells k = (vals (zeros k)).toArray := by
  apply Array.ext'
  simp [Builtin.zeroCells, vals, zeros, Value.cells, Nat.mod_one, List.eq_replicate_iff]
theorem append_zeros (w : World) (B : Nat) (ty : TypeId) (v : Value) (n : Nat) (xs : List Value) (hown : w.ownsRow B 3 1 v n xs) (k : Nat) (hnk : n + k ≤ 1000) (hB : B ≤ w.heap.size) :
    ∃ v' w', (Builtin.append_ #[33, 3] ty #[v, .int .i64 k]).run Try.prog w = .ok v' w' ∧ w'.ownsRow B 3 1 v' (n + k) (xs ++ vals (zeros k)) ∧ w.grownBy w' v.ownBlock := by
  obtain ⟨i0, hi, hz, hz1, hz2⟩ := info_parts infoInt
  have ht := Try.underlying33
  have htn := Try.underlying3
  have hzl : (vals (zeros k)).length = k := by rw [vals_len, zeros_len]
  have hxl : xs.length = n := by simpa using hown.1
  have hlen : (xs ++ vals (zeros k)).length = n + k := by rw [List.length_append, hxl, hzl]
  have grown : ∀ (old : Nat) (row : Option Nat),
      (w.drew.alloc (.cells (xs.toArray ++ Builtin.zeroCells (Value.int .i64 0).cells k ++ Builtin.zeroCells (Value.int .i64 0).cells (grownCap w (n + k) old 3 - (n + k))) 3)).ownsRow B 3 1
        (.slice (some ⟨w.heap.size, 0, none⟩) (n + k) (grownCap w (n + k) old 3)) (n + k) (xs ++ vals (zeros k)) ∧
      w.grownBy (w.drew.alloc (.cells (xs.toArray ++ Builtin.zeroCells (Value.int .i64 0).cells k ++ Builtin.zeroCells (Value.int .i64 0).cells (grownCap w (n + k) old 3 - (n + k))) 3)) row := by
    intro old row
    have hge := grownCap_ge w (n + k) old 3
    have hcm : grownCap w (n + k) old 3 ≤ maxLen := grownCap_le_maxLen w (n + k) old 3 (by unfold maxLen; omega)
    refine ⟨⟨by rw [hlen, Nat.mul_one], .inr ⟨w.heap.size, _, _, rfl, hB, heap_alloc_new w.drew _, hge, hcm, ?_, ?_⟩⟩, ⟨rfl, rfl, rfl, by simp, fun k hk _ => heap_alloc_old w.drew _ hk⟩⟩
    · simp only [Array.size_append, List.size_toArray, size_zeroCells, hxl, Value.cells]
      simp
      omega
    · simp only [Array.toList_append, List.append_assoc, zeroCells_vals]
      rw [← List.append_assoc, Nat.mul_one, ← hlen]
      exact List.take_left
  by_cases hk : k = 0
  · subst hk
    refine ⟨v, w, ?_, by simpa [zeros, vals] using hown, ⟨rfl, rfl, rfl, Nat.le_refl _, fun _ _ _ => rfl⟩⟩
    rcases hown.2 with ⟨rfl, rfl⟩ | ⟨g, cap, cur, rfl, _, _, hnc, _⟩
    · simp [Builtin.append_, run_underlying ht, run_underlying htn, sizeOf, typeInfo, hi, asInt, asIntOf, IntKind.wrap_i64]
    · simp [Builtin.append_, run_underlying ht, run_underlying htn, sizeOf, typeInfo, hi, asInt, asIntOf, hnc, storeCells, IntKind.wrap_i64]
  · rcases hown.2 with ⟨rfl, rfl⟩ | ⟨g, cap, cur, rfl, hbg, hg, hnc, hcm, hcs, htake⟩
    · have hx : xs = [] := List.eq_nil_of_length_eq_zero hxl
      subst hx
      have hr := Lib.run_append_grow_zeros (P := Try.prog) w 33 3 ty 3 i0 (.int .i64 0) .i64 .i64 ht htn hi hz none 0 0 [] (run_firstCells_none _ _ _ _ _) k (by omega) (by omega) (by omega) (by omega) (by rw [hz2]; omega) (growslice_fits (by omega) (by rw [hz2]; omega))
      have hgr := grown 0 (Value.ownBlock (.slice none 0 0))
      simp only [Nat.zero_add] at hgr hr ⊢
      exact ⟨_, _, hr, hgr.1, hgr.2⟩
    · by_cases hroom : n + k ≤ cap
      · have hfit : n * 1 + (vals (zeros k)).length ≤ cur.size := by rw [hzl, hcs]; omega
        have hst := run_storeCells_at Try.prog g (n * 1) 3 (vals (zeros k)) 0 cur w hg (by simpa using hfit) (by intro u hu; simp [vals] at hu; obtain ⟨_, _, rfl⟩ := hu; rfl)
        simp at hst
        have hw : IntKind.i64.wrap (k : Int) = k := by rw [IntKind.wrap_i64]; omega
        have hneg : ¬ ((k : Int) < 0) := by omega
        have h48 : ¬ (281474976710656 < (k : Int) * (i0.bytes : Int)) := by rw [hz2]; omega
        have hsl : i0.size = 1 := hz1
        refine ⟨.slice (some ⟨g, 0, none⟩) (n + k) cap, w.setRow g (cur.toList.take (n * 1) ++ vals (zeros k) ++ cur.toList.drop (n * 1 + (vals (zeros k)).length)).toArray, ?_, ⟨by rw [hlen, Nat.mul_one], .inr ⟨g, cap, _, rfl, hbg, setRow_heap w g cur _ 3 _ hg, hroom, hcm, ?_, ?_⟩⟩, ⟨rfl, rfl, rfl, by simp, fun k _ hk => setRow_other w g k _ (fun e => hk (by simp [Value.ownBlock, e]))⟩⟩
        · simp [Builtin.append_, run_underlying ht, run_underlying htn, sizeOf, typeInfo, zeroValue, hi, hz, hsl, hk, asInt, asIntOf, hw, hneg, h48, hroom, zeroCells_vals, Addr.add_lit, hst]
        · simp only [List.size_toArray, List.length_append, List.length_take, List.length_drop, Array.length_toList]
          omega
        · rw [htake, Nat.mul_one, ← hlen]
          exact List.take_left
      · have holds : ∀ j u, xs[j]? = some u → w.cell? ((⟨g, 0, none⟩ : Addr).add j) = some u := hown.cells (g := g) rfl
        have hr := Lib.run_append_grow_zeros (P := Try.prog) w 33 3 ty 3 i0 (.int .i64 0) .i64 .i64 ht htn hi hz (some ⟨g, 0, none⟩) n cap xs (run_firstCells_some w.drew i0.size n ⟨g, 0, none⟩ n cap xs (by rw [hz1]; simpa using hown.1) (by simpa using holds)) k (by omega) (by omega) (by omega) (by omega) (by rw [hz2]; omega) (growslice_fits (by omega) (by rw [hz2]; omega))
        have hgr := grown cap (Value.ownBlock (.slice (some ⟨g, 0, none⟩) n cap))
        exact ⟨_, _, hr, hgr.1, hgr.2⟩
section
variable {ops : Array Oper} {o : Oper} {a : Act} {w : World} {Q : Exit → Act → World → Prop}
theorem wpList_append_zeros {rest : List Oper} (hgd : o.guard = none) (s x : Operand) (ho : o.op = .call { callee := .builtin .append, args := #[s, x], argTypes := #[33, 3] })
    (B : Nat) (v : Value) (n : Nat) (xs : List Value) (hs : a.eval s = v) (hown : w.ownsRow B 3 1 v n xs) (k : Nat) (hx : a.eval x = .int .i64 k) (hnk : n + k ≤ 1000) (hB : B ≤ w.heap.size)
    (h : ∀ A' c' w', w'.ownsRow B 3 1 (.slice A' (n + k) c') (n + k) (xs ++ vals (zeros k)) → w.grownBy w' v.ownBlock → wpList Try.prog ops Q rest (a.put o.dst (.slice A' (n + k) c')) w') : wpList Try.prog ops Q (o :: rest) a w :=
  wpList_plain hgd fun _ hK => by
    obtain ⟨v', w', h1, h2, h3⟩ := append_zeros w B o.type v n xs hown k hnk hB
    obtain ⟨A', c', rfl⟩ := own_slice h2
    unfold Oper.wp
    rw [exec_append ho hs hx h1, Oper.upon_value]
    exact hK _ _ (h A' c' w' h2 h3)
end
end Go.Proofs.Ytkgnlloioaobiaa
namespace Go.Proofs.Ytkgnlloioaobiaa
open Go.RowKit
def RoomAt (w1 W : World) (bo m : Nat) (K : Int) (zs : List Int) : Prop :=
  ∃ A0 c0, LBox W bo A0 m c0 K ∧ W.ownsRow (bo + 1) 3 1 (.slice A0 m c0) m (vals zs) ∧ Below bo w1 W ∧ bo < W.heap.size
theorem room_step {w1 W w2 : World} {bo m m' c0 c1 : Nat} {A0 A1 : Option Addr} {K : Int} {zs ys : List Int} (h : LBox W bo A0 m c0 K) (hown : W.ownsRow (bo + 1) 3 1 (.slice A0 m c0) m (vals zs)) (hb : Below bo w1 W) (hlt : bo < W.heap.size)
    (hown2 : w2.ownsRow (bo + 1) 3 1 (.slice A1 m' c1) m' (vals zs ++ vals ys)) (hgr : W.grownBy w2 (Value.slice A0 m c0).ownBlock) :
    LBox w2 bo A0 m c0 K ∧ RoomAt w1 (w2.setCell ⟨bo, 0, none⟩ (.slice A1 m' c1)) bo m' K (zs ++ ys) := by
  have L2 : LBox w2 bo A0 m c0 K := (hgr.block bo hlt (fun e => by have := (hown.lt _ e.symm).1; omega)).trans h
  refine ⟨L2, A1, c1, L2.set0 _ _ _, ?_, ?_, ?_⟩
  · rw [vals_app]
    exact World.ownsRow.kept hown2 (grown_cell w2 ⟨bo, 0, none⟩ _) (.inr fun e => by have h : bo + 1 ≤ bo := (hown2.lt _ e).1; omega)
  · exact (hb.grown hgr (by omega) (fun k e => by have := (hown.lt k e).1; omega)).setCell (p := ⟨bo, 0, none⟩) (Nat.le_refl _) _
  · have := hgr.size
    simp only [World.setCell, Array.size_modify]
    omega
theorem sub_ints {w : World} {b off n d k : Nat} {xs : List Int} (h : IntsAt w (some ⟨b, off, none⟩) n xs) (hd : d + k ≤ n) : IntsAt w (some ⟨b, off + d, none⟩) k ((xs.drop d).take k) := by
  by_cases hk : k = 0
  · subst hk
    exact ⟨by simp, by omega, fun x hx => by simp at hx, fun h0 => absurd h0 (by omega)⟩
  · obtain ⟨b', off', e, hb, hc⟩ := h.cells (by omega)
    simp only [Option.some.injEq, Addr.mk.injEq, and_true] at e
    obtain ⟨rfl, rfl⟩ := e
    exact ints_sub h.len h.small h.wf hb hc hd
end Go.Proofs.Ytkgnlloioaobiaa
namespace Go.Proofs.Ytkgnlloioaobiaa
open Go.RowKit
def RetI (w : World) (e : Ending) (w' : World) (ys : List Int) (K err : Int) : Prop :=
  ∃ A n c, e = .returned (.tuple #[.agg #[.slice A n c, .int .i64 K], .int .i64 err]) ∧ IntsAt w' A n ys ∧ Below w.heap.size w w' ∧ (n = 0 ∨ ∃ g, A = some ⟨g, 0, none⟩ ∧ w.heap.size ≤ g ∧ ∃ cur : Array Value, w'.heap[g]? = some (.cells cur 3 (0, 0)) ∧ n ≤ cur.size)
theorem ret_i {w w' : World} {A : Option Addr} {n c : Nat} {ys : List Int} {K err : Int} (h1 : IntsAt w' A n ys) (h2 : Below w.heap.size w w') (h3 : n = 0 ∨ ∃ g, A = some ⟨g, 0, none⟩ ∧ w.heap.size ≤ g ∧ ∃ cur : Array Value, w'.heap[g]? = some (.cells cur 3 (0, 0)) ∧ n ≤ cur.size) :
    RetI w (.returned (.tuple #[.agg #[.slice A n c, .int .i64 K], .int .i64 err])) w' ys K err := ⟨A, n, c, rfl, h1, h2, h3⟩
theorem own_typed {w : World} {B m c : Nat} {A : Option Addr} {xs : List Value} (h : w.ownsRow B 3 1 (.slice A m c) m xs) : m = 0 ∨ ∃ g, A = some ⟨g, 0, none⟩ ∧ B ≤ g ∧ ∃ cur : Array Value, w.heap[g]? = some (.cells cur 3 (0, 0)) ∧ m ≤ cur.size := by
  rcases h.2 with ⟨_, h0⟩ | ⟨g, cap, cur, e, hb, hc, h1, _, h3, _⟩
  · exact .inl h0
  · simp only [Value.slice.injEq] at e
    exact .inr ⟨g, e.1, hb, cur, hc, by omega⟩
theorem store2_far {w : World} {b k : Nat} (hk : k ≠ b) (x y : Value) : ((w.setCell ⟨b, 0, none⟩ x).setCell ⟨b, 1, none⟩ y).heap[k]? = w.heap[k]? := (Below.heap_setCell _ _ _ k hk).trans (Below.heap_setCell _ _ _ k hk)
set_option maxHeartbeats 4000000 in
theorem own_room_ok (b off n c : Nat) (K : Int) (xs : List Int) (i k : Nat) (w : World) (hI : IntsAt w (some ⟨b, off, none⟩) n xs) (hbl : 0 < n → b < w.heap.size) (hnc : n ≤ c) (hc63 : c ≤ 9223372036854775807)
    (hv : validB xs K = true) (hi : i ≤ n) (hk : n + k ≤ 12) :
    Calls Try.prog 47 #[.agg #[.slice (some ⟨b, off, none⟩) n c, .int .i64 K], .int .i64 i, .int .i64 k] w fun e w' => RetI w e w' (roomL xs i k) K 0 := by
  have hsm := hI.small
  have B1 := (LBox.new w (some ⟨b, off, none⟩) n c K).alloc (.cells #[.slice none 0 0, .int .i64 0] 53)
  have B2 := LBox.new (w.alloc (.cells #[.slice (some ⟨b, off, none⟩) n c, .int .i64 K] 53)) none 0 0 0
  have hB := below_step (below_alloc w (.cells #[.slice (some ⟨b, off, none⟩) n c, .int .i64 K] 53)) (below_alloc _ (.cells #[.slice none 0 0, .int .i64 0] 53))
  have h1 := hI.step hB
  rw [World.size_alloc] at B2
  have hi1 : (i : Int) ≤ n := by omega
  have hi2 : (i : Int) ≤ c := by omega
  have hk1 : (k : Int) ≤ 12 - (n : Int) := by omega
  have s6 : (n : Int) ≤ c := by omega
  clear hI
  go_enter Try.func47, Try.ntmps47
  go_wp2_with (go_at_call 63; refine (ref_valid _ _ _ _ xs _ h1).mono ?_; rintro e w1 ⟨rfl, hb⟩; replace h1 := h1.step hb; replace B1 := B1.step hb; replace B2 := B2.step hb; have c10 := B1.c0; have c11 := B1.c1; replace hB := below_step hB hb)
  have L3 := LBox.new w1 none 0 0 K
  have R0 : RoomAt w1 (w1.alloc (.cells #[.slice none 0 0, .int .i64 K] 53)) w1.heap.size 0 K [] := ⟨none, 0, L3, World.ownsRow_nil _ _ _ _, (Below.refl _ _).alloc (Nat.le_refl _) _, by simp⟩
  generalize hw2 : w1.alloc (.cells #[.slice none 0 0, .int .i64 K] 53) = w2 at *
  clear c10 c11 hb L3 hw2
  go_cut [] from 9 (fun W => RoomAt w1 W w1.heap.size i K (xs.take i))
  case first =>
    obtain ⟨A0, c0, LB0, hown0, hbw0, hlt0⟩ := R0
    have LB : LBox w2.drew w1.heap.size A0 0 c0 K := LB0
    have hown : w2.drew.ownsRow (w1.heap.size + 1) 3 1 (.slice A0 0 c0) 0 (vals []) := hown0
    have hbw := hbw0.drew
    have hlt : w1.heap.size < w2.drew.heap.size := hlt0
    have D1 := B1.below hbw B1.lt
    have c10 := D1.c0
    have c20 := LB.c0
    have J1 : IntsAt w2.drew (some ⟨b, off, none⟩) i (xs.take i) := by simpa using sub_ints (d := 0) (k := i) (h1.step hbw) (by omega)
    have hq1 : 0 + i ≤ 17592186044416 := by omega
    have hq2 : w1.heap.size + 1 ≤ w2.drew.heap.size := hlt
    clear LB0 hown0 hbw0 hlt0
    go_region_law (refine step_append_ints (A := some ⟨b, off, none⟩) (m := i) (c := c) (ys := xs.take i) (v := .slice A0 0 c0) (n := 0) (xs := vals []) (B := w1.heap.size + 1) rfl _ _ rfl ?a1 ?a2 ?a3 J1 hq1 hq2 ?_; (case a1 => rfl); (case a2 => exact hown); (case a3 => rfl); intro A1 c1 W2 hown2 hgr; obtain ⟨LB2, R1⟩ := room_step LB hown hbw hlt hown2 hgr; have d0 := LB2.c0; have d1 := LB2.f 0)
    all_goals
      go_wp2
      go_meet
      case rel => exact (by simpa using R1)
  case rest =>
    clear R0
    obtain ⟨A1, c1, LB, hown, hbw, hlt⟩ := hcut
    have c20 := LB.c0
    have hq1 : i + k ≤ 1000 := by omega
    go_wp2_with (at_builtin; refine wpList_append_zeros rfl _ _ rfl (w1.heap.size + 1) _ _ _ rfl hown k rfl hq1 hlt ?_; intro A2 c2 W2 hown2 hgr; obtain ⟨LB2, R1⟩ := room_step LB hown hbw hlt hown2 hgr; have d0 := LB2.c0; have d1 := LB2.f 0)
    generalize hw3 : W2.setCell ⟨w1.heap.size, 0, none⟩ (.slice A2 (i + k) c2) = w3 at *
    clear LB2 d0 d1 hw3 hgr hown2 W2 hown hbw hlt c20 LB
    go_cut [] from 9 (fun W => RoomAt w1 W w1.heap.size (i + k + (n - i)) K (xs.take i ++ zeros k ++ xs.drop i))
    case first =>
      obtain ⟨A3, c3, LB0, hown0, hbw0, hlt0⟩ := R1
      have LB : LBox w3.drew w1.heap.size A3 (i + k) c3 K := LB0
      have hown : w3.drew.ownsRow (w1.heap.size + 1) 3 1 (.slice A3 (i + k) c3) (i + k) (vals (xs.take i ++ zeros k)) := hown0
      have hbw := hbw0.drew
      have hlt : w1.heap.size < w3.drew.heap.size := hlt0
      have D1 := B1.below hbw B1.lt
      have c10 := D1.c0
      have c20 := LB.c0
      obtain ⟨q, hq⟩ : ∃ q, (if c = i then some (⟨b, off, none⟩ : Addr) else some ⟨b, off + i, none⟩) = q := ⟨_, rfl⟩
      have J1 : IntsAt w3.drew q (n - i) (xs.drop i) := by
        have h := sub_ints (d := i) (k := n - i) (h1.step hbw) (by omega)
        rw [List.take_of_length_le (by rw [List.length_drop, h1.len]; exact Nat.le_refl _)] at h
        rw [← hq]
        split
        · have h0 : n - i = 0 := by omega
          exact ⟨h.len, h.small, h.wf, fun hn => absurd hn (by omega)⟩
        · exact h
      have hq2 : i + k + (n - i) ≤ 17592186044416 := by omega
      have hq3 : w1.heap.size + 1 ≤ w3.drew.heap.size := hlt
      clear LB0 hown0 hbw0 hlt0
      go_region_law (refine step_append_ints (A := q) (m := n - i) (c := c - i) (ys := xs.drop i) (v := .slice A3 (i + k) c3) (n := i + k) (xs := vals (xs.take i ++ zeros k)) (B := w1.heap.size + 1) rfl _ _ rfl ?a1 ?a2 ?a3 J1 hq2 hq3 ?_; (case a1 => rfl); (case a2 => exact hown); (case a3 => rfl); intro A4 c4 W4 hown4 hgr; obtain ⟨LB4, R4⟩ := room_step LB hown hbw hlt hown4 hgr; have d0 := LB4.c0; have d1 := LB4.f 0)
      all_goals
        go_wp2
        go_meet
        case rel => exact R4
    case rest =>
      clear R1
      obtain ⟨A4, c4, LB, hown, hbw, hlt⟩ := hcut
      have hx : xs.take i ++ zeros k ++ xs.drop i = roomL xs i k := rfl
      have hm : i + k + (n - i) = n + k := by omega
      rw [hx, hm] at hown
      rw [hm] at LB
      have hfr := own_fresh hown
      have HT := Lib.hid (own_typed hown)
      obtain ⟨A5, c5, e5, I5⟩ := own_ints hown (by omega) (room_wf h1.wf)
      simp only [Value.slice.injEq, true_and] at e5
      obtain ⟨rfl, rfl⟩ := e5
      have D2 := B2.below hbw B2.lt
      have l2 := B2.lt
      have hEnd := below_step hB hbw
      have c20 := LB.c0
      have c21 := LB.c1
      have d20 := D2.c0
      have d21 := D2.c1
      have f20 := D2.f 0
      have f21 := D2.f 1
      have c50 := D2.s0 (.slice A4 (n + k) c4)
      have c51 := (D2.store A4 (n + k) c4 K).c1
      have hf6 : n + k = 0 ∨ ∃ g, A4 = some ⟨g, 0, none⟩ ∧ w.heap.size + 1 < g := hfr.imp id (fun ⟨g, h, h'⟩ => ⟨g, h, by omega⟩)
      clear hown hfr hx hm
      go_wp2
      refine bodyPost_ret (v := .tuple #[.agg #[.slice A4 (n + k) c4, .int .i64 K], .int .i64 0]) (by simp [results, Try.results47, go_sem, c50, c51]) rfl ?_
      exact ret_i (ints_keep2 I5 (hf6.imp id (fun ⟨g, h, h'⟩ => ⟨g, h, by omega⟩)) _ _) (below_store2 hEnd (by omega) _ _) (HT.out.imp id (fun ⟨g, h, h', cur, hc, hn⟩ => ⟨g, h, by omega, cur, (store2_far (by omega) _ _).trans hc, hn⟩))
set_option maxHeartbeats 4000000 in
theorem own_room_nil (K : Int) (k : Nat) (w : World) (hv : validB [] K = true) (hk : k ≤ 12) :
    Calls Try.prog 47 #[.agg #[.slice none 0 0, .int .i64 K], .int .i64 0, .int .i64 k] w fun e w' => RetI w e w' (roomL [] 0 k) K 0 := by
  have hI : IntsAt w none 0 [] := ints_nil _ _
  have B1 := (LBox.new w none 0 0 K).alloc (.cells #[.slice none 0 0, .int .i64 0] 53)
  have B2 := LBox.new (w.alloc (.cells #[.slice none 0 0, .int .i64 K] 53)) none 0 0 0
  have hB := below_step (below_alloc w (.cells #[.slice none 0 0, .int .i64 K] 53)) (below_alloc _ (.cells #[.slice none 0 0, .int .i64 0] 53))
  have h1 := hI.step hB
  rw [World.size_alloc] at B2
  have hk1 : (k : Int) ≤ 12 := by omega
  clear hI
  go_enter Try.func47, Try.ntmps47
  go_wp2_with (go_at_call 63; refine (ref_valid _ _ _ _ [] _ h1).mono ?_; rintro e w1 ⟨rfl, hb⟩; replace h1 := h1.step hb; replace B1 := B1.step hb; replace B2 := B2.step hb; have c10 := B1.c0; have c11 := B1.c1; replace hB := below_step hB hb)
  have L3 := LBox.new w1 none 0 0 K
  have R0 : RoomAt w1 (w1.alloc (.cells #[.slice none 0 0, .int .i64 K] 53)) w1.heap.size 0 K [] := ⟨none, 0, L3, World.ownsRow_nil _ _ _ _, (Below.refl _ _).alloc (Nat.le_refl _) _, by simp⟩
  generalize hw2 : w1.alloc (.cells #[.slice none 0 0, .int .i64 K] 53) = w2 at *
  clear c10 c11 hb L3 hw2
  go_cut [] from 9 (fun W => RoomAt w1 W w1.heap.size 0 K [])
  case first =>
    obtain ⟨A0, c0, LB0, hown0, hbw0, hlt0⟩ := R0
    have LB : LBox w2.drew w1.heap.size A0 0 c0 K := LB0
    have hown : w2.drew.ownsRow (w1.heap.size + 1) 3 1 (.slice A0 0 c0) 0 (vals []) := hown0
    have hbw := hbw0.drew
    have hlt : w1.heap.size < w2.drew.heap.size := hlt0
    have D1 := B1.below hbw B1.lt
    have c10 := D1.c0
    have c20 := LB.c0
    have J1 : IntsAt w2.drew none 0 [] := ints_nil _ _
    have hq1 : 0 + 0 ≤ 17592186044416 := by omega
    have hq2 : w1.heap.size + 1 ≤ w2.drew.heap.size := hlt
    clear LB0 hown0 hbw0 hlt0
    go_region_law (refine step_append_ints (A := none) (m := 0) (c := 0) (ys := []) (v := .slice A0 0 c0) (n := 0) (xs := vals []) (B := w1.heap.size + 1) rfl _ _ rfl ?a1 ?a2 ?a3 J1 hq1 hq2 ?_; (case a1 => rfl); (case a2 => exact hown); (case a3 => rfl); intro A1 c1 W2 hown2 hgr; obtain ⟨LB2, R1⟩ := room_step LB hown hbw hlt hown2 hgr; have d0 := LB2.c0; have d1 := LB2.f 0)
    all_goals
      go_wp2
      go_meet
      case rel => exact (by simpa using R1)
  case rest =>
    clear R0
    obtain ⟨A1, c1, LB, hown, hbw, hlt⟩ := hcut
    have c20 := LB.c0
    have hq1 : 0 + k ≤ 1000 := by omega
    go_wp2_with (at_builtin; refine wpList_append_zeros rfl _ _ rfl (w1.heap.size + 1) _ _ _ rfl hown k rfl hq1 hlt ?_; intro A2 c2 W2 hown2 hgr; obtain ⟨LB2, R1⟩ := room_step LB hown hbw hlt hown2 hgr; have d0 := LB2.c0; have d1 := LB2.f 0)
    rw [List.nil_append] at R1
    try rw [Nat.zero_add] at R1
    generalize hw3 : W2.setCell ⟨w1.heap.size, 0, none⟩ (.slice A2 _ c2) = w3 at *
    clear LB2 d0 d1 hw3 hgr hown2 W2 hown hbw hlt c20 LB
    go_cut [] from 9 (fun W => RoomAt w1 W w1.heap.size k K (zeros k))
    case first =>
      obtain ⟨A3, c3, LB0, hown0, hbw0, hlt0⟩ := R1
      have LB : LBox w3.drew w1.heap.size A3 k c3 K := LB0
      have hown : w3.drew.ownsRow (w1.heap.size + 1) 3 1 (.slice A3 k c3) k (vals (zeros k)) := hown0
      have hbw := hbw0.drew
      have hlt : w1.heap.size < w3.drew.heap.size := hlt0
      have D1 := B1.below hbw B1.lt
      have c10 := D1.c0
      have c20 := LB.c0
      have J1 : IntsAt w3.drew none 0 [] := ints_nil _ _
      have hq2 : k + 0 ≤ 17592186044416 := by omega
      have hq3 : w1.heap.size + 1 ≤ w3.drew.heap.size := hlt
      clear LB0 hown0 hbw0 hlt0
      go_region_law (refine step_append_ints (A := none) (m := 0) (c := 0) (ys := []) (v := .slice A3 k c3) (n := k) (xs := vals (zeros k)) (B := w1.heap.size + 1) rfl _ _ rfl ?a1 ?a2 ?a3 J1 hq2 hq3 ?_; (case a1 => rfl); (case a2 => exact hown); (case a3 => rfl); intro A4 c4 W4 hown4 hgr; obtain ⟨LB4, R4⟩ := room_step LB hown hbw hlt hown4 hgr; have d0 := LB4.c0; have d1 := LB4.f 0)
      all_goals
        go_wp2
        go_meet
        case rel => exact (by simpa using R4)
    case rest =>
      clear R1
      obtain ⟨A4, c4, LB, hown, hbw, hlt⟩ := hcut
      have hx : roomL [] 0 k = zeros k := by simp [roomL]
      have hfr := own_fresh hown
      have HT := Lib.hid (own_typed hown)
      obtain ⟨A5, c5, e5, I5⟩ := own_ints hown (by omega) (zeros_wf k)
      simp only [Value.slice.injEq, true_and] at e5
      obtain ⟨rfl, rfl⟩ := e5
      have D2 := B2.below hbw B2.lt
      have l2 := B2.lt
      have hEnd := below_step hB hbw
      have c20 := LB.c0
      have c21 := LB.c1
      have d20 := D2.c0
      have d21 := D2.c1
      have f20 := D2.f 0
      have f21 := D2.f 1
      have c50 := D2.s0 (.slice A4 k c4)
      have c51 := (D2.store A4 k c4 K).c1
      have hf6 : k = 0 ∨ ∃ g, A4 = some ⟨g, 0, none⟩ ∧ w.heap.size + 1 < g := hfr.imp id (fun ⟨g, h, h'⟩ => ⟨g, h, by omega⟩)
      have HX := Lib.hid hx
      clear hown hfr hx
      go_wp2
      refine bodyPost_ret (v := .tuple #[.agg #[.slice A4 k c4, .int .i64 K], .int .i64 0]) (by simp [results, Try.results47, go_sem, c50, c51]) rfl ?_
      rw [HX.out]
      exact ret_i (ints_keep2 I5 (hf6.imp id (fun ⟨g, h, h'⟩ => ⟨g, h, by omega⟩)) _ _) (below_store2 hEnd (by omega) _ _) (HT.out.imp id (fun ⟨g, h, h', cur, hc, hn⟩ => ⟨g, h, by omega, cur, (store2_far (by omega) _ _).trans hc, hn⟩))
set_option maxHeartbeats 4000000 in
theorem own_room_zero (b off : Nat) (sp : Option Nat) (c : Nat) (hc63 : c ≤ 9223372036854775807) (K : Int) (k : Nat) (w : World) (hv : validB [] K = true) (hk : k ≤ 12) :
    Calls Try.prog 47 #[.agg #[.slice (some ⟨b, off, sp⟩) 0 c, .int .i64 K], .int .i64 0, .int .i64 k] w fun e w' => RetI w e w' (roomL [] 0 k) K 0 := by
  have hI : IntsAt w (some ⟨b, off, sp⟩) 0 [] := ints_nil _ _
  have B1 := (LBox.new w (some ⟨b, off, sp⟩) 0 c K).alloc (.cells #[.slice none 0 0, .int .i64 0] 53)
  have B2 := LBox.new (w.alloc (.cells #[.slice (some ⟨b, off, sp⟩) 0 c, .int .i64 K] 53)) none 0 0 0
  have hB := below_step (below_alloc w (.cells #[.slice (some ⟨b, off, sp⟩) 0 c, .int .i64 K] 53)) (below_alloc _ (.cells #[.slice none 0 0, .int .i64 0] 53))
  have h1 := hI.step hB
  rw [World.size_alloc] at B2
  have hk1 : (k : Int) ≤ 12 := by omega
  clear hI
  go_enter Try.func47, Try.ntmps47
  go_wp2_with (go_at_call 63; refine (ref_valid _ _ _ _ [] _ h1).mono ?_; rintro e w1 ⟨rfl, hb⟩; replace h1 := h1.step hb; replace B1 := B1.step hb; replace B2 := B2.step hb; have c10 := B1.c0; have c11 := B1.c1; replace hB := below_step hB hb)
  have L3 := LBox.new w1 none 0 0 K
  have R0 : RoomAt w1 (w1.alloc (.cells #[.slice none 0 0, .int .i64 K] 53)) w1.heap.size 0 K [] := ⟨none, 0, L3, World.ownsRow_nil _ _ _ _, (Below.refl _ _).alloc (Nat.le_refl _) _, by simp⟩
  generalize hw2 : w1.alloc (.cells #[.slice none 0 0, .int .i64 K] 53) = w2 at *
  clear c10 c11 hb L3 hw2
  go_cut [] from 9 (fun W => RoomAt w1 W w1.heap.size 0 K [])
  case first =>
    obtain ⟨A0, c0, LB0, hown0, hbw0, hlt0⟩ := R0
    have LB : LBox w2.drew w1.heap.size A0 0 c0 K := LB0
    have hown : w2.drew.ownsRow (w1.heap.size + 1) 3 1 (.slice A0 0 c0) 0 (vals []) := hown0
    have hbw := hbw0.drew
    have hlt : w1.heap.size < w2.drew.heap.size := hlt0
    have D1 := B1.below hbw B1.lt
    have c10 := D1.c0
    have c20 := LB.c0
    have J1 : IntsAt w2.drew (some ⟨b, off, sp⟩) 0 [] := ints_nil _ _
    have hq1 : 0 + 0 ≤ 17592186044416 := by omega
    have hq2 : w1.heap.size + 1 ≤ w2.drew.heap.size := hlt
    clear LB0 hown0 hbw0 hlt0
    go_region_law (refine step_append_ints (A := some ⟨b, off, sp⟩) (m := 0) (c := c) (ys := []) (v := .slice A0 0 c0) (n := 0) (xs := vals []) (B := w1.heap.size + 1) rfl _ _ rfl ?a1 ?a2 ?a3 J1 hq1 hq2 ?_; (case a1 => rfl); (case a2 => exact hown); (case a3 => rfl); intro A1 c1 W2 hown2 hgr; obtain ⟨LB2, R1⟩ := room_step LB hown hbw hlt hown2 hgr; have d0 := LB2.c0; have d1 := LB2.f 0)
    all_goals
      go_wp2
      go_meet
      case rel => exact (by simpa using R1)
  case rest =>
    clear R0
    obtain ⟨A1, c1, LB, hown, hbw, hlt⟩ := hcut
    have c20 := LB.c0
    have hq1 : 0 + k ≤ 1000 := by omega
    go_wp2_with (at_builtin; refine wpList_append_zeros rfl _ _ rfl (w1.heap.size + 1) _ _ _ rfl hown k rfl hq1 hlt ?_; intro A2 c2 W2 hown2 hgr; obtain ⟨LB2, R1⟩ := room_step LB hown hbw hlt hown2 hgr; have d0 := LB2.c0; have d1 := LB2.f 0)
    rw [List.nil_append] at R1
    try rw [Nat.zero_add] at R1
    generalize hw3 : W2.setCell ⟨w1.heap.size, 0, none⟩ (.slice A2 _ c2) = w3 at *
    clear LB2 d0 d1 hw3 hgr hown2 W2 hown hbw hlt c20 LB
    go_cut [] from 9 (fun W => RoomAt w1 W w1.heap.size k K (zeros k))
    case first =>
      obtain ⟨A3, c3, LB0, hown0, hbw0, hlt0⟩ := R1
      have LB : LBox w3.drew w1.heap.size A3 k c3 K := LB0
      have hown : w3.drew.ownsRow (w1.heap.size + 1) 3 1 (.slice A3 k c3) k (vals (zeros k)) := hown0
      have hbw := hbw0.drew
      have hlt : w1.heap.size < w3.drew.heap.size := hlt0
      have D1 := B1.below hbw B1.lt
      have c10 := D1.c0
      have c20 := LB.c0
      obtain ⟨q, hq⟩ : ∃ q, (if c = 0 then some (⟨b, off, sp⟩ : Addr) else some ⟨b, off, sp⟩) = q := ⟨_, rfl⟩
      have J1 : IntsAt w3.drew (some ⟨b, off, sp⟩) 0 [] := ints_nil _ _
      have hq2 : k + 0 ≤ 17592186044416 := by omega
      have hq3 : w1.heap.size + 1 ≤ w3.drew.heap.size := hlt
      clear LB0 hown0 hbw0 hlt0
      go_region_law (refine step_append_ints (A := some ⟨b, off, sp⟩) (m := 0) (c := c) (ys := []) (v := .slice A3 k c3) (n := k) (xs := vals (zeros k)) (B := w1.heap.size + 1) rfl _ _ rfl ?a1 ?a2 ?a3 J1 hq2 hq3 ?_; (case a1 => rfl); (case a2 => exact hown); (case a3 => rfl); intro A4 c4 W4 hown4 hgr; obtain ⟨LB4, R4⟩ := room_step LB hown hbw hlt hown4 hgr; have d0 := LB4.c0; have d1 := LB4.f 0)
      all_goals
        go_wp2
        go_meet
        case rel => exact (by simpa using R4)
    case rest =>
      clear R1
      obtain ⟨A4, c4, LB, hown, hbw, hlt⟩ := hcut
      have hx : roomL [] 0 k = zeros k := by simp [roomL]
      have hfr := own_fresh hown
      have HT := Lib.hid (own_typed hown)
      obtain ⟨A5, c5, e5, I5⟩ := own_ints hown (by omega) (zeros_wf k)
      simp only [Value.slice.injEq, true_and] at e5
      obtain ⟨rfl, rfl⟩ := e5
      have D2 := B2.below hbw B2.lt
      have l2 := B2.lt
      have hEnd := below_step hB hbw
      have c20 := LB.c0
      have c21 := LB.c1
      have d20 := D2.c0
      have d21 := D2.c1
      have f20 := D2.f 0
      have f21 := D2.f 1
      have c50 := D2.s0 (.slice A4 k c4)
      have c51 := (D2.store A4 k c4 K).c1
      have hf6 : k = 0 ∨ ∃ g, A4 = some ⟨g, 0, none⟩ ∧ w.heap.size + 1 < g := hfr.imp id (fun ⟨g, h, h'⟩ => ⟨g, h, by omega⟩)
      have HX := Lib.hid hx
      clear hown hfr hx
      go_wp2
      refine bodyPost_ret (v := .tuple #[.agg #[.slice A4 k c4, .int .i64 K], .int .i64 0]) (by simp [results, Try.results47, go_sem, c50, c51]) rfl ?_
      rw [HX.out]
      exact ret_i (ints_keep2 I5 (hf6.imp id (fun ⟨g, h, h'⟩ => ⟨g, h, by omega⟩)) _ _) (below_store2 hEnd (by omega) _ _) (HT.out.imp id (fun ⟨g, h, h', cur, hc, hn⟩ => ⟨g, h, by omega, cur, (store2_far (by omega) _ _).trans hc, hn⟩))
theorem own_room_c (A : Option Addr) (n c : Nat) (K : Int) (xs : List Int) (i k : Nat) (w : World) (hC : CapOf A n c) (hI : IntsAt w A n xs) (hv : validB xs K = true) (hi : i ≤ n) (hk : n + k ≤ 12) :
    Calls Try.prog 47 #[.agg #[.slice A n c, .int .i64 K], .int .i64 i, .int .i64 k] w fun e w' => RetI w e w' (roomL xs i k) K 0 := by
  have hl := hI.len
  obtain ⟨hnone, hnc, hcc⟩ := hC
  rcases Nat.eq_zero_or_pos n with rfl | h0
  · obtain rfl : xs = [] := List.eq_nil_of_length_eq_zero hl
    obtain rfl : i = 0 := by omega
    cases A with
    | none =>
      obtain ⟨_, rfl⟩ := hnone rfl
      exact own_room_nil K k w hv (by omega)
    | some ad =>
      obtain ⟨b, off, sp⟩ := ad
      exact own_room_zero b off sp c (by omega) K k w hv (by omega)
  · obtain ⟨b, off, rfl, hlt, hc⟩ := hI.cells h0
    exact own_room_ok b off n c K xs i k w hI (fun _ => hlt) hnc (by omega) hv hi hk
end Go.Proofs.Ytkgnlloioaobiaa
namespace Go.Proofs.Ytkgnlloioaobiaa
open Go.ChangeShapes Go.WideShapes Go.ChangeAt Go.RowKit Go.Shelf
theorem PL3.box {N b j : Nat} {w : World} {u v : Value} {ps : List PEl} {cs : Array Value} {fz : Nat × Nat} (h : PL3 N w u ps) (hb : N ≤ b) (hc : w.heap[b]? = some (.cells cs 24 fz)) : PL3 N (w.setCell ⟨b, j, none⟩ v) u ps := by
  have hg : w.grownBy (w.setCell ⟨b, j, none⟩ v) (some b) := ⟨rfl, rfl, rfl, by simp [World.setCell], fun k _ hk => Below.heap_setCell _ _ _ k (fun e => hk (by rw [e]))⟩
  have hty : PcRow N w (some b) := fun r e => by cases e; exact ⟨hb, _, _, _, hc, by decide, by decide⟩
  refine ⟨⟨h.own.1, ?_⟩, h.few, fun p hp => (h.ok p hp).grown hg hty⟩
  rcases h.own.2 with h0 | ⟨g, cap, cur, hv, hgN, hcc, rest⟩
  · exact .inl h0
  · have hne : g ≠ b := by
      rintro rfl
      rw [hc] at hcc
      simp at hcc
    exact .inr ⟨g, cap, cur, hv, hgN, (Below.heap_setCell _ _ _ g hne).trans hcc, rest⟩
theorem PieceAny.box {b j : Nat} {w : World} {v : Value} {p : PEl} {cs : Array Value} {fz : Nat × Nat} (h : PieceAny 0 w p) (hc : w.heap[b]? = some (.cells cs 24 fz)) : PieceAny 0 (w.setCell ⟨b, j, none⟩ v) p := by
  have hg : w.grownBy (w.setCell ⟨b, j, none⟩ v) (some b) := ⟨rfl, rfl, rfl, by simp [World.setCell], fun k _ hk => Below.heap_setCell _ _ _ k (fun e => hk (by rw [e]))⟩
  exact h.grown hg fun r e => by cases e; exact ⟨Nat.zero_le _, _, _, _, hc, by decide, by decide⟩
theorem SetBox.set1 {w : World} {b : Nat} {D : Int} {A : Option Addr} {n c : Nat} (h : SetBox w b D A n c) (A' : Option Addr) (n' c' : Nat) : SetBox (w.setCell ⟨b, 1, none⟩ (.slice A' n' c')) b D A' n' c' := by
  unfold SetBox at h ⊢
  simp only [World.setCell]
  rw [Array.getElem?_modify, if_pos rfl, h]
  rfl
theorem snoc_take {α : Type} {l : List α} {k : Nat} {x : α} (h : l[k]? = some x) : l.take (k + 1) = l.take k ++ [x] := by
  rw [List.take_add_one, h]; rfl
theorem conds_of_one {w : World} {g : Nat} {e : CEl} (hg : w.heap[g]? = some (.cells #[.int .i64 e.q, .int .i64 e.M, .slice e.A e.n e.c, .int .i64 e.K] 55 (0, 0))) (hi : IntsAt w e.A e.n e.xs) : CondsAt w (some ⟨g, 0, none⟩) 1 [e] := by
  refine ⟨rfl, by omega, fun _ => ⟨g, 0, rfl, (Array.getElem?_eq_some_iff.1 hg).1, fun j x hx => ?_⟩, fun x hx => by rw [List.mem_singleton.1 hx]; exact hi⟩
  match j, hx with
  | 0, hx =>
    cases hx
    exact ⟨by rw [cell_of_row w g _ _ _ (0, 0) hg]; rfl, by rw [cell_of_row w g _ _ _ (0, 0) hg]; rfl, by rw [cell_of_row w g _ _ _ (0, 0) hg]; rfl, by rw [cell_of_row w g _ _ _ (0, 0) hg]; rfl⟩
  | j + 1, hx => simp at hx
theorem PL3.row_typed {N : Nat} {w : World} {u : Value} {ps : List PEl} (h : PL3 N w u ps) : ∀ r, u.ownBlock = some r → ∃ cur, w.heap[r]? = some (.cells cur 40 (0, 0)) := fun r e => by
  rcases h.own.2 with ⟨hv, _⟩ | ⟨g, cap, cur, hv, hgN, hc, _⟩
  · rw [hv] at e; cases e
  · rw [hv] at e; cases e; exact ⟨cur, hc⟩
section
variable {ops : Array Oper} {o : Oper} {a : Act} {w : World} {Q : Exit → Act → World → Prop}
theorem wpList_append_pieces2 {rest : List Oper} (hgd : o.guard = none) (s x : Operand) (t : TypeId) (ho : o.op = .call { callee := .builtin .append, args := #[s, x], argTypes := #[t, t] }) (ht : Try.prog.underlying t = some (.slice 40))
    {N : Nat} {u : Value} {ps : List PEl} (hs : a.eval s = u) (hL : PL3 N w u ps) {A : Option Addr} {n c : Nat} {new : List PEl} (hx : a.eval x = .slice A n c) (hC : PiecesAt w A n new) (hnil : A = none → c = 0) (hro : ∀ p ∈ new, PieceAny N w p) (hm : ps.length + n ≤ 4000000000) (hN : N ≤ w.heap.size)
    (h : ∀ u' w', PL3 N w' u' (ps ++ new) → Below N w w' → SetsStay w w' → (∀ p, PieceAny 0 w p → PieceAny 0 w' p) → wpList Try.prog ops Q rest (a.put o.dst u') w') : wpList Try.prog ops Q (o :: rest) a w := by
  obtain ⟨i0, hi0, hz, hz1, hz2⟩ := info_parts infoPc
  have hl := hC.len
  cases A with
  | none =>
    have hn : n = 0 := by
      rcases Nat.eq_zero_or_pos n with h0 | h0
      · exact h0
      · obtain ⟨b, off, hA, _⟩ := hC.cells h0
        cases hA
    subst hn
    obtain rfl := hnil rfl
    obtain rfl : new = [] := List.length_eq_zero_iff.1 hl
    exact wpList_append_own_none hgd s x t ho N 40 i0 1 ht hi0 u ps.length (ps.map PEl.v) hs hL.own hx (h u w (by rw [List.append_nil]; exact hL) (Below.refl _ _) (SetsStay.refl _) (fun p h => h))
  | some ad =>
    have hat : ∀ (j : Nat) (v : Value), (new.map PEl.v)[j]? = some v → w.cell? (ad.add j) = some v := fun j v hv => by
      rcases Nat.eq_zero_or_pos n with h0 | h0
      · rw [List.length_eq_zero_iff.1 (hl.trans h0)] at hv
        simp at hv
      · obtain ⟨b, off, hA, _, hc⟩ := hC.cells h0
        cases hA
        rw [add_plain]
        rw [List.getElem?_map] at hv
        obtain ⟨p, hp, rfl⟩ := Option.map_eq_some_iff.1 hv
        exact hc j p hp
    refine wpList_append_own _ hgd s x t ho N 40 i0 (.slice none 0 0) 1 24 ht hi0 hz hz1 hz2 rfl (by decide) u ps.length (ps.map PEl.v) hs hL.own ad n c (new.map PEl.v) hx (by rw [List.length_map, hl, Nat.mul_one]) hat (pv_one new) (by unfold maxLen; omega) (by omega) hN ?_
    intro v' w' hown hgr _
    refine h v' w' ⟨by rw [List.length_append, List.map_append, hl]; exact hown, by rw [List.length_append]; omega, fun p hp => ?_⟩ ((Below.refl N w).grown hgr hN fun k e => (hL.typed k e).1) (fun k cs fz e => (hgr.block k (Array.getElem?_eq_some_iff.1 e).1 fun e' => (hL.row_typed k e'.symm).elim fun cur h9 => by rw [e] at h9; simp at h9).trans e) (fun p hp => hp.grown hgr fun r e => ⟨Nat.zero_le _, (hL.typed r e).2⟩)
    rcases List.mem_append.1 hp with hp | hp
    · exact (hL.ok p hp).grown hgr hL.typed
    · exact (hro p hp).grown hgr hL.typed
end
set_option maxHeartbeats 8000000 in
theorem ref_sroom (D : Int) (A : Option Addr) (n c : Nat) (ps : List PEl) (i k : Int) (w : World) (h : PiecesAt w A n ps) (hC : ∀ p ∈ ps, PieceC p) (hk : -9223372036854775808 ≤ k ∧ k ≤ 9223372036854775807) :
    Calls Try.prog 22 #[setV D A n c, .int .i64 i, .int .i64 k] w fun e w' => ShiftRet w e w' (D + k) (roomE D ps i k) := by
  have hB := below_step (below_alloc w (.cells #[.int .i64 D, .slice A n c] 24)) (below_alloc _ (.cells #[.int .i64 0, .slice none 0 0] 24))
  have X1 := (SetBox.new w D A n c).alloc (.cells #[.int .i64 0, .slice none 0 0] 24)
  have X4 := SetBox.new (w.alloc (.cells #[.int .i64 D, .slice A n c] 24)) 0 none 0 0
  simp only [World.size_alloc] at X4
  have P1 := h.step hB
  have x0 := X1.c0
  have x1 := X1.c1
  have HCC := Lib.hid hC
  clear h hC
  cases hv : validS D ps
  · have HV := Lib.hid hv
    have HR := Lib.hid (show roomE D ps i k = (1, []) by unfold roomE; rw [if_pos hv])
    rw [HR.out]
    clear hv
    go_enter Try.func22, Try.ntmps22
    go_wp2_with (first | (go_at_call 17; refine (ref_svalid D A n c ps _ P1).mono ?_; rintro e w1 ⟨rfl, hb1⟩; rw [HV.out]; replace hB := below_step hB hb1; have P2 := P1.step hb1; have Y1 := X1.step hb1; have Y4 := X4.step hb1; clear x0 x1; have c0 := Y1.c0; have c1 := Y1.c1; have z0 := Y4.c0; have z1 := Y4.c1; have f0 := Y4.f 0; have f1 := Y4.f 1))
    have X5 := Y4.put 0 none 0 0; have hb8 := below_put (w := w1) (N := w.heap.size) (b := w.heap.size + 1) (by omega) (.int .i64 0) (.slice none 0 0); generalize (w1.setCell ⟨w.heap.size + 1, 0, none⟩ (.int .i64 0)).setCell ⟨w.heap.size + 1, 1, none⟩ (.slice none 0 0) = w5 at *; have y0 := X5.c0; have y1 := X5.c1; try rw [Exit.noGoto_ret]
    refine bodyPost_ret (v := .tuple #[setV 0 none 0 0, .int .i64 1]) (by simp [results, Try.results22, go_sem, y0, y1]) rfl ?_
    exact shift_bad (by decide) (hB.trans hb8)
  · have HV := Lib.hid hv
    have hE := valid_els hv
    obtain ⟨hD0, hD1, hL⟩ := hE.1
    have HE := Lib.hid hE.2
    have s1 : IntKind.i64.wrap (12 - D) = 12 - D := IntWalk.i64_in _ (by omega)
    by_cases hr : i < 0 ∨ D < i ∨ k < 0
    · have HR := Lib.hid (show roomE D ps i k = (6, []) by unfold roomE; rw [if_neg (by rw [hv]; simp), if_pos hr])
      rw [HR.out]
      clear hv hE hL
      go_enter Try.func22, Try.ntmps22
      by_cases hi : i < 0
      · clear hr
        go_wp2_with (first | (go_at_call 17; refine (ref_svalid D A n c ps _ P1).mono ?_; rintro e w1 ⟨rfl, hb1⟩; rw [HV.out]; replace hB := below_step hB hb1; have P2 := P1.step hb1; have Y1 := X1.step hb1; have Y4 := X4.step hb1; clear x0 x1; have c0 := Y1.c0; have c1 := Y1.c1; have z0 := Y4.c0; have z1 := Y4.c1; have f0 := Y4.f 0; have f1 := Y4.f 1))
        have X5 := Y4.put 0 none 0 0; have hb8 := below_put (w := w1) (N := w.heap.size) (b := w.heap.size + 1) (by omega) (.int .i64 0) (.slice none 0 0); generalize (w1.setCell ⟨w.heap.size + 1, 0, none⟩ (.int .i64 0)).setCell ⟨w.heap.size + 1, 1, none⟩ (.slice none 0 0) = w5 at *; have y0 := X5.c0; have y1 := X5.c1; try rw [Exit.noGoto_ret]
        refine bodyPost_ret (v := .tuple #[setV 0 none 0 0, .int .i64 6]) (by simp [results, Try.results22, go_sem, y0, y1]) rfl ?_
        exact shift_bad (by decide) (hB.trans hb8)
      · by_cases hi2 : D < i
        · clear hr
          go_wp2_with (first | (go_at_call 17; refine (ref_svalid D A n c ps _ P1).mono ?_; rintro e w1 ⟨rfl, hb1⟩; rw [HV.out]; replace hB := below_step hB hb1; have P2 := P1.step hb1; have Y1 := X1.step hb1; have Y4 := X4.step hb1; clear x0 x1; have c0 := Y1.c0; have c1 := Y1.c1; have z0 := Y4.c0; have z1 := Y4.c1; have f0 := Y4.f 0; have f1 := Y4.f 1))
          have X5 := Y4.put 0 none 0 0; have hb8 := below_put (w := w1) (N := w.heap.size) (b := w.heap.size + 1) (by omega) (.int .i64 0) (.slice none 0 0); generalize (w1.setCell ⟨w.heap.size + 1, 0, none⟩ (.int .i64 0)).setCell ⟨w.heap.size + 1, 1, none⟩ (.slice none 0 0) = w5 at *; have y0 := X5.c0; have y1 := X5.c1; try rw [Exit.noGoto_ret]
          refine bodyPost_ret (v := .tuple #[setV 0 none 0 0, .int .i64 6]) (by simp [results, Try.results22, go_sem, y0, y1]) rfl ?_
          exact shift_bad (by decide) (hB.trans hb8)
        · have hk0 : k < 0 := by omega
          clear hr
          go_wp2_with (first | (go_at_call 17; refine (ref_svalid D A n c ps _ P1).mono ?_; rintro e w1 ⟨rfl, hb1⟩; rw [HV.out]; replace hB := below_step hB hb1; have P2 := P1.step hb1; have Y1 := X1.step hb1; have Y4 := X4.step hb1; clear x0 x1; have c0 := Y1.c0; have c1 := Y1.c1; have z0 := Y4.c0; have z1 := Y4.c1; have f0 := Y4.f 0; have f1 := Y4.f 1))
          have X5 := Y4.put 0 none 0 0; have hb8 := below_put (w := w1) (N := w.heap.size) (b := w.heap.size + 1) (by omega) (.int .i64 0) (.slice none 0 0); generalize (w1.setCell ⟨w.heap.size + 1, 0, none⟩ (.int .i64 0)).setCell ⟨w.heap.size + 1, 1, none⟩ (.slice none 0 0) = w5 at *; have y0 := X5.c0; have y1 := X5.c1; try rw [Exit.noGoto_ret]
          refine bodyPost_ret (v := .tuple #[setV 0 none 0 0, .int .i64 6]) (by simp [results, Try.results22, go_sem, y0, y1]) rfl ?_
          exact shift_bad (by decide) (hB.trans hb8)
    · have hi0 : ¬ i < 0 := by omega
      have hi1 : ¬ D < i := by omega
      have hk0 : ¬ k < 0 := by omega
      by_cases hf : 12 - D < k
      · have HR := Lib.hid (show roomE D ps i k = (3, []) by unfold roomE; rw [if_neg (by rw [hv]; simp), if_neg hr, if_pos hf])
        rw [HR.out]
        clear hv hE hL hr
        go_enter Try.func22, Try.ntmps22
        go_wp2_with (first | (go_at_call 17; refine (ref_svalid D A n c ps _ P1).mono ?_; rintro e w1 ⟨rfl, hb1⟩; rw [HV.out]; replace hB := below_step hB hb1; have P2 := P1.step hb1; have Y1 := X1.step hb1; have Y4 := X4.step hb1; clear x0 x1; have c0 := Y1.c0; have c1 := Y1.c1; have z0 := Y4.c0; have z1 := Y4.c1; have f0 := Y4.f 0; have f1 := Y4.f 1))
        have X5 := Y4.put 0 none 0 0; have hb8 := below_put (w := w1) (N := w.heap.size) (b := w.heap.size + 1) (by omega) (.int .i64 0) (.slice none 0 0); generalize (w1.setCell ⟨w.heap.size + 1, 0, none⟩ (.int .i64 0)).setCell ⟨w.heap.size + 1, 1, none⟩ (.slice none 0 0) = w5 at *; have y0 := X5.c0; have y1 := X5.c1; try rw [Exit.noGoto_ret]
        refine bodyPost_ret (v := .tuple #[setV 0 none 0 0, .int .i64 3]) (by simp [results, Try.results22, go_sem, y0, y1]) rfl ?_
        exact shift_bad (by decide) (hB.trans hb8)
      · have HR := Lib.hid (show roomE D ps i k = (0, (ps.map PEl.dat).map fun d => d.map (chgD fun xs K => (roomL xs i.toNat k.toNat, K))) by unfold roomE; rw [if_neg (by rw [hv]; simp), if_neg hr, if_neg hf])
        rw [HR.out]
        have s2 : IntKind.i64.wrap (D + k) = D + k := IntWalk.i64_in _ (by omega)
        obtain ⟨i', rfl⟩ : ∃ m : Nat, i = m := ⟨i.toNat, by omega⟩
        obtain ⟨k', rfl⟩ : ∃ m : Nat, k = m := ⟨k.toNat, by omega⟩
        have hn400 : n ≤ 400 := by have := P1.len; omega
        have HNL := Lib.hid P1.len
        rw [show ((i' : Int)).toNat = i' from Int.toNat_natCast i', show ((k' : Int)).toNat = k' from Int.toNat_natCast k']
        obtain ⟨L, hLL⟩ : ∃ L, ((ps.map PEl.dat).map fun d => d.map (chgD fun xs K => (roomL xs i' k', K))) = L := ⟨_, rfl⟩
        rw [hLL]
        have HLL := Lib.hid hLL
        clear hv hE hL hr hLL
        go_enter Try.func22, Try.ntmps22
        go_wp2_with (first | ((go_at_call 17; refine (ref_svalid D A n c ps _ P1).mono ?_; rintro e w1 ⟨rfl, hb1⟩; rw [HV.out]; replace hB := below_step hB hb1; have P2 := P1.step hb1; have Y1 := X1.step hb1; have Y4 := X4.step hb1; clear x0 x1; have c0 := Y1.c0; have c1 := Y1.c1; have z0 := Y4.c0; have z1 := Y4.c1; have f0 := Y4.f 0; have f1 := Y4.f 1); have b5 := below_alloc w1 (.cells #[.int .i64 (D + (k' : Int)), .slice none 0 0] 24); have e0 := (Y1.step b5).c0; have e1 := (Y1.step b5).c1))
        have hl4 := Y4.lt
        have O5 := SetBox.new w1 (D + (k' : Int)) none 0 0
        generalize hw5 : w1.alloc (.cells #[.int .i64 (D + (k' : Int)), .slice none 0 0] 24) = w5 at *
        clear hw5 c0 c1 z0 z1 f0 f1 e0 e1
        go_loopw [50] (fun v wr => ∃ (t : Nat) (vs : List PEl) (Av : Option Addr) (cv : Nat), t ≤ n ∧ v = .int .i64 t ∧ SetBox wr w1.heap.size (D + (k' : Int)) Av vs.length cv ∧ PL3 w1.heap.size wr (.slice Av vs.length cv) vs ∧ (∀ p ∈ vs, PieceAny 0 wr p) ∧ Hid (vs.map PEl.dat = L.take t) ∧ Below w1.heap.size w1 wr) (fun v _ => n - (intOf v).toNat)
        case atStart => exact ⟨0, [], none, 0, Nat.zero_le _, rfl, O5, PL3.nil _ _, (fun p h => nomatch h), Lib.hid (by simp), b5⟩
        case round =>
          clear O5 b5
          obtain ⟨t, vs, Av, cv, ht, rfl, hO, hU, hT, HD, hbr⟩ := hrel
          by_cases hlt : t < n
          · obtain ⟨b, off, p, rfl, hblt, hpj, hmem, hcell, hCp⟩ := (P2.step hbr).at hlt
            have HPJ := Lib.hid hpj
            have HPM := Lib.hid hmem
            have HLJ := Lib.hid (show L[t]? = some (p.dat.map (chgD fun xs K => (roomL xs i' k', K))) by rw [← HLL.out, List.map_map, List.getElem?_map, hpj]; rfl)
            have HEP := Lib.hid (HE.out p hmem)
            have HCP := Lib.hid (HCC.out p hmem)
            obtain ⟨pA, pn, pc, pels⟩ := p
            simp only at hcell hCp HEP HCP
            have hq1 : (t : Int) < n := by omega
            have HPL := Lib.hid hCp.len
            have hpn : pn ≤ 96 := by have := HEP.out.1; have := HPL.out; omega
            clear hpj hmem hCp
            go_wp2
            generalize hwr : wr = wo at *
            clear hwr hcell
            go_loopw [11, 56] (fun u k wt => ∃ (j : Nat) (us : List CEl), j ≤ pn ∧ k = .int .i64 j ∧ CL2 w1.heap.size wo.heap.size wt u us ∧ Hid (us.map CEl.d = (pels.take j).map fun e => chgD (fun xs K => (roomL xs i' k', K)) e.d) ∧ Below wo.heap.size wo wt) (fun _ k _ => pn - (intOf k).toNat)
            case atStart => exact ⟨0, [], Nat.zero_le _, rfl, CL2.nil _ _ _, Lib.hid (by simp), Below.refl _ _⟩
            case round =>
              obtain ⟨j, us, hj, rfl, hQ, HUD, hbs⟩ := hrel
              obtain ⟨Aq, cq, rfl⟩ := hQ.slice
              have hbw := hbr.trans (hbs.mono hbr.size)
              by_cases hlt2 : j < pn
              · obtain ⟨b2, off2, e, hpA, hb2lt, hej, hem, hcs, hin⟩ := ((P2.conds _ HPM.out).step hbw).at hlt2
                have hpA : pA = some ⟨b2, off2, none⟩ := hpA
                subst hpA
                obtain ⟨x0, x1, x2, x3⟩ := hcs
                have HEJ := Lib.hid (show pels[j]? = some e from hej)
                obtain ⟨hvc, hen⟩ := HEP.out.2 e hem
                have hcap := HCP.out.2.2 e hem
                obtain ⟨eq, eM, eA, en, ec, eK, exs⟩ := e
                simp only at x0 x1 x2 x3 hin hvc hen hcap
                have hq2 : (j : Int) < pn := by omega
                have hien : i' ≤ en := by omega
                have hken : en + k' ≤ 12 := by omega
                have hvl := valid_lin hvc
                have b5 := below_alloc wr (.cells #[.int .i64 eq, .int .i64 eM, .slice eA en ec, .int .i64 eK] 55)
                have XC := CBox.new wr eq eM eA en ec eK
                have I5 := hin.step b5
                have Q5 := hQ.step b5
                have c2 := XC.c2
                have c3 := XC.c3
                clear hej hem hin hQ hlt2
                go_wp2_with (first
                  | (go_at_call 47; refine (own_room_c eA en ec eK exs i' k' _ hcap I5 hvl hien hken).mono ?_; rintro x w3 ⟨A3, n3, c3', rfl, I3, hb3, hf3⟩; have XC3 := XC.step hb3; have Q3 := Q5.step hb3; have b6 := below_alloc w3 (.cells #[.slice A3 n3 c3', .int .i64 eK] 53); have XM := LBox.new w3 A3 n3 c3' eK; have XC6 := XC3.step b6; have y0 := XC6.c0; have y1 := XC6.c1; have y2 := XM.c0; have y3 := XM.c1; have Q7 := Q3.step b6; have I7 := I3.step b6; have b8 := below_alloc (w3.alloc (.cells #[.slice A3 n3 c3', .int .i64 eK] 53)) (.cells #[.int .i64 eq, .int .i64 eM, .slice A3 n3 c3', .int .i64 eK] 55); have hbw7 := (hbs.trans (b5.mono hbs.size)).trans ((hb3.trans (b6.mono hb3.size)).mono (by have := b5.size; have := hbs.size; omega) : Below wo.heap.size _ _); have R3 : RowOk w1.heap.size w3 A3 n3 := (hf3.imp id fun ⟨g', hA, hg, cur, hc, hn⟩ => ⟨g', hA, Nat.le_trans (Nat.le_trans (Nat.le_trans (Nat.le_refl _) hbw.size) b5.size) hg, cur, hc, hn⟩); have R7 : RowOk w1.heap.size _ A3 n3 := (RowOk.step R3 b6); have C8 := conds_of_one (w := (w3.alloc (.cells #[.slice A3 n3 c3', .int .i64 eK] 53)).alloc (.cells #[.int .i64 eq, .int .i64 eM, .slice A3 n3 c3', .int .i64 eK] 55)) (e := ⟨eq, eM, A3, n3, c3', eK, roomL exs i' k'⟩) (heap_alloc_new _ _) (I7.step b8); have R8 : ∀ e ∈ [(⟨eq, eM, A3, n3, c3', eK, roomL exs i' k'⟩ : CEl)], RowOk w1.heap.size ((w3.alloc (.cells #[.slice A3 n3 c3', .int .i64 eK] 53)).alloc (.cells #[.int .i64 eq, .int .i64 eM, .slice A3 n3 c3', .int .i64 eK] 55)) e.A e.n := (fun e he => by rw [List.mem_singleton.1 he]; exact RowOk.step R7 b8); have hul : us.length + 1 ≤ 100000 := (by have h9 := congrArg List.length HUD.out; rw [List.length_map, List.length_map, List.length_take] at h9; have := HPL.out; omega); have hN8 := Nat.le_trans hbw7.size b8.size; clear x0 x1 x2 x3 c2 c3)
                  | (at_builtin; rw [World.size_alloc] at C8; (refine wpList_append_view rfl _ _ 40 rfl rfl rfl (Q7.step b8) rfl C8 (fun h => nomatch h) (fun ad h => (by cases h; rfl)) R8 hul hN8 ?_; intro u9 w9 L9 hb9)))
                have hb10 := (hbw7.trans (b8.mono hbw7.size)).trans hb9
                go_roundw
                case rel => exact ⟨j + 1, _, by omega, by go_num, L9, Lib.hid (by
                  rw [List.map_append, HUD.out, List.take_add_one, HEJ.out, Option.toList_some, List.map_append]
                  rfl), hb10⟩
                case measure => simp [intOf]; omega
              · obtain rfl : j = pn := by omega
                have hUs := hU.step hbs
                have hOs := hO.step hbs
                have HPA0 := Lib.hid (PieceAny.of_cl3 (N := 0) (CL3.of_cl hQ) (fun e he => .inr ((hQ.rows e he).mono (Nat.zero_le _))))
                have HUA := Lib.hid (show us.map CEl.d = pels.map fun e => chgD (fun xs K => (roomL xs i' k', K)) e.d by rw [HUD.out, List.take_of_length_le (by rw [HPL.out]; exact Nat.le_refl _)])
                have b8 := below_alloc wr (.cells #[.slice Aq us.length cq] 40)
                have hPA := (PieceAny.of_cl3 (N := w1.heap.size) (CL3.of_cl hQ) (fun e he => .inr ((hQ.rows e he).mono (Nat.zero_le _)))).step b8
                have hPO := pieces_of_one (w := wr.alloc (.cells #[.slice Aq us.length cq] 40)) (p := ⟨Aq, us.length, cq, us⟩) (heap_alloc_new wr _) hPA.conds
                have hO8 := hOs.step b8
                have HT8 := Lib.hid (show ∀ p ∈ vs ++ [(⟨Aq, us.length, cq, us⟩ : PEl)], PieceAny 0 (wr.alloc (.cells #[.slice Aq us.length cq] 40)) p from fun p hp => by
                  rcases List.mem_append.1 hp with hp | hp
                  · exact ((hT p hp).step hbs).step b8
                  · rw [List.mem_singleton.1 hp]; exact HPA0.out.step b8)
                have hsz4 : w1.heap.size ≤ (wr.alloc (.cells #[.slice Aq us.length cq] 40)).heap.size := by have := hO8.lt; omega
                have hvl : vs.length + 1 ≤ 4000000000 := by
                  have h9 := congrArg List.length HD.out
                  rw [List.length_map, List.length_take] at h9
                  have h8 := (List.getElem?_eq_some_iff.1 HLJ.out).1
                  omega
                have HSN := Lib.hid (snoc_take HLJ.out)
                have o1 := hOs.c1
                obtain ⟨vn, hvn⟩ : ∃ vn, vs ++ [(⟨Aq, us.length, cq, us⟩ : PEl)] = vn := ⟨_, rfl⟩
                have HVN := Lib.hid hvn
                clear hvn
                clear hQ hU hO hT
                go_wp2_with (at_builtin; refine wpList_append_pieces2 rfl _ _ 22 rfl rfl rfl (hUs.step b8) rfl hPO (fun h => nomatch h) (fun p hp => by rw [List.mem_singleton.1 hp]; exact hPA) hvl hsz4 ?_; intro u9 w9 hU9 hb9 hst9 hpt9; have HT9 := Lib.hid (fun p hp => hpt9 p (HT8.out p hp)); rw [HVN.out] at hU9; obtain ⟨A9, c9, hu9⟩ := hU9.slice; subst hu9; have hO9 : SetBox w9 w1.heap.size (D + (k' : Int)) Av vs.length cv := hst9 _ _ _ hO8; have o2 := hO9.c1; have of2 := hO9.f 1)
                have hO10 := hO9.set1 A9 vn.length c9
                have hU10 := hU9.box (j := 1) (v := .slice A9 vn.length c9) (Nat.le_refl _) hO9
                have hb10 := (((hbw.trans (b8.mono hbw.size)).trans (hb9.mono (Nat.le_refl _))).setCell (p := ⟨w1.heap.size, 1, none⟩) (by show w1.heap.size ≤ w1.heap.size; exact Nat.le_refl _) (.slice A9 vn.length c9))
                have HDN := Lib.hid (show vn.map PEl.dat = L.take (t + 1) by
                  rw [← HVN.out, HSN.out, List.map_append, HD.out]
                  show _ ++ [us.map CEl.d] = _ ++ [(pels.map CEl.d).map (chgD fun xs K => (roomL xs i' k', K))]
                  rw [HUA.out, List.map_map]
                  rfl)
                go_roundw
                case rel => exact ⟨t + 1, _, _, _, by omega, by go_num, hO10, hU10, (fun p hp => (HT9.out p (by rw [HVN.out]; exact hp)).box hO9), HDN, hb10⟩
                case measure => simp [intOf]; omega
          · obtain rfl : t = n := by omega
            have HDU := Lib.hid (show vs.map PEl.dat = L by rw [HD.out, List.take_of_length_le (by rw [← HLL.out, List.length_map, List.length_map, HNL.out]; exact Nat.le_refl _)])
            obtain ⟨A9, c9, hu9, P9, _⟩ := hU.pieces
            cases hu9
            have Z3 := Y4.step hbr
            have hbz := below_step hB hbr
            have HP := Lib.hid P9
            have HOK := Lib.hid hU.ok
            have HBZ := Lib.hid hbz
            have o0 := hO.c0
            have o1 := hO.c1
            have z0 := Z3.c0
            have z1 := Z3.c1
            have f0 := Z3.f 0
            have f1 := Z3.f 1
            have HZ := Lib.hid (show SetBox wr (w.heap.size + 1) 0 none 0 0 from Z3)
            have hz4 := Y4.lt
            have hws := hB.size
            have HT := Lib.hid hT
            have hg9 := Lib.hid (show 0 < vs.length → ∀ g o, Av = some ⟨g, o, none⟩ → w1.heap.size ≤ g from fun h0 g o hA => by
              obtain ⟨A', c', e', _, hg'⟩ := hU.pieces
              cases e'
              obtain ⟨g', o', h1, h2⟩ := hg' h0
              rw [hA] at h1
              cases h1
              exact h2)
            clear hU P9 hbz hO Z3 hT
            go_wp2
            have X5 := HZ.out.put (D + (k' : Int)) Av vs.length cv
            have hok5 : ∀ p ∈ vs, PieceAny 0 ((wr.setCell ⟨w.heap.size + 1, 0, none⟩ (.int .i64 (D + (k' : Int)))).setCell ⟨w.heap.size + 1, 1, none⟩ (.slice Av vs.length cv)) p := fun p hp => (HT.out p hp).put (Nat.zero_le _) HZ.out _ _
            have hP5 := pieces_again HP.out (fun p hp => (hok5 p hp).conds) (by simp [World.setCell]) (fun h0 g o hA => put_other (by have := hg9.out h0 g o hA; omega) _ _)
            have hb5 := HBZ.out.trans (below_put (w := wr) (N := w.heap.size) (b := w.heap.size + 1) (by omega) (.int .i64 (D + (k' : Int))) (.slice Av vs.length cv))
            generalize (wr.setCell ⟨w.heap.size + 1, 0, none⟩ (.int .i64 (D + (k' : Int)))).setCell ⟨w.heap.size + 1, 1, none⟩ (.slice Av vs.length cv) = w6 at *
            have y0 := X5.c0
            have y1 := X5.c1
            refine bodyPost_ret (v := .tuple #[setV (D + (k' : Int)) Av vs.length cv, .int .i64 0]) (by simp [results, Try.results22, go_sem, y0, y1]) rfl ?_
            exact shift_ok hP5 (fun p hp => (hok5 p hp).mono (Nat.zero_le _)) HDU.out hb5
end Go.Proofs.Ytkgnlloioaobiaa
namespace Go.Proofs.Ytkgnlloioaobiaa
open Go.RowKit Go.Shelf
def okOrd (D : Int) (ord : List Int) : Prop := (∀ v ∈ ord, 0 ≤ v ∧ v < D) ∧ ord.Nodup
instance okOrd_dec (D : Int) (ord : List Int) : Decidable (okOrd D ord) := by unfold okOrd; infer_instance
def turnE (D : Int) (ps : List PEl) (ord : List Int) : Int × List (List CD) :=
  if validS D ps = false then (1, []) else if (ord.length : Int) ≠ D then (2, []) else if ¬ okOrd D ord then (6, []) else (0, (ps.map PEl.dat).map fun d => d.map (chgD fun xs K => (turnL xs ord, K)))
theorem okOrd_zero (D : Int) (ord : List Int) : okOrd D (ord.take 0) := ⟨fun v h => (by simp at h), by simp⟩
theorem okOrd_next {D : Int} {ord : List Int} {i : Nat} {v : Int} (h : okOrd D (ord.take i)) (hv : ord[i]? = some v) (h0 : 0 ≤ v ∧ v < D) (hn : v ∉ ord.take i) : okOrd D (ord.take (i + 1)) := by
  rw [List.take_add_one, hv, Option.toList_some]
  refine ⟨fun u hu => ?_, ?_⟩
  · rcases List.mem_append.1 hu with hu | hu
    · exact h.1 u hu
    · rw [List.mem_singleton.1 hu]; exact h0
  · rw [List.nodup_append]
    refine ⟨h.2, by simp, fun a ha b hb => ?_⟩
    rw [List.mem_singleton.1 hb]
    rintro rfl
    exact hn ha
theorem okOrd_bad {D : Int} {ord : List Int} {i : Nat} {v : Int} (hv : ord[i]? = some v) (h : ¬ (0 ≤ v ∧ v < D) ∨ v ∈ ord.take i) : ¬ okOrd D ord := fun hk => by
  rcases h with h | h
  · exact h (hk.1 v (List.mem_of_getElem? hv))
  · have h1 : ord = ord.take i ++ ord.drop i := (List.take_append_drop i ord).symm
    have h2 := hk.2
    rw [h1, List.nodup_append] at h2
    have hd : v ∈ ord.drop i := by
      obtain ⟨hi, rfl⟩ := List.getElem?_eq_some_iff.1 hv
      exact List.mem_drop_iff_getElem.2 ⟨0, by simpa using hi, by simp⟩
    exact h2.2.2 v h v hd rfl
def seenA (l : List Int) : List Value := (List.range 12).map fun (j : Nat) => Value.bool (decide ((j : Int) ∈ l))
def SeenBox (w : World) (g : Nat) (l : List Int) : Prop := w.heap[g]? = some (.cells (seenA l).toArray 67 (0, 0))
section
variable {w w' : World} {g : Nat} {l : List Int}
theorem SeenBox.lt (h : SeenBox w g l) : g < w.heap.size := (Array.getElem?_eq_some_iff.1 h).1
theorem SeenBox.step (h : SeenBox w g l) (hb : Below w.heap.size w w') : SeenBox w' g l := (hb.block g h.lt).trans h
theorem SeenBox.c (h : SeenBox w g l) {v : Nat} (hv : v < 12) : w.cell? ⟨g, v, none⟩ = some (.bool (decide ((v : Int) ∈ l))) := by
  rw [cell_of_row w g v _ _ (0, 0) h, List.getElem?_toArray]
  unfold seenA
  rw [List.getElem?_map, List.getElem?_range hv]
  rfl
theorem SeenBox.f (h : SeenBox w g l) (v : Nat) : w.frozen? ⟨g, v, none⟩ = false := by
  unfold SeenBox at h
  simp [World.frozen?, h]
theorem SeenBox.put (h : SeenBox w g l) {v : Nat} (hv : v < 12) : SeenBox (w.setCell ⟨g, v, none⟩ (.bool true)) g (l ++ [(v : Int)]) := by
  unfold SeenBox at h ⊢
  simp only [World.setCell]
  rw [Array.getElem?_modify, if_pos rfl, h]
  simp only [Option.map_some, Obj.cells.injEq, Option.some.injEq, and_true]
  apply Array.ext'
  show ((seenA l).toArray.setIfInBounds v (Value.bool true)).toList = (seenA (l ++ [(v : Int)])).toArray.toList
  rw [Array.toList_setIfInBounds]
  apply List.ext_getElem?
  intro k
  unfold seenA
  by_cases hk : k < 12
  · by_cases hkv : k = v
    · subst hkv
      rw [List.getElem?_set_self (by simpa using hk), List.getElem?_map, List.getElem?_range hk]
      simp
    · rw [List.getElem?_set_ne (by omega), List.getElem?_map, List.getElem?_range hk, List.getElem?_map, List.getElem?_range hk]
      have hne : (k : Int) ≠ (v : Int) := by omega
      simp [hne]
  · rw [List.getElem?_eq_none (by simp; omega), List.getElem?_eq_none (by simp; omega)]
end
set_option maxHeartbeats 8000000 in
theorem set_turn (D : Int) (A : Option Addr) (n c : Nat) (ps : List PEl) (O : Option Addr) (m oc : Nat) (ord : List Int) (w : World) (h : PiecesAt w A n ps) (hO : IntsAt w O m ord) :
    Calls Try.prog 23 #[setV D A n c, .slice O m oc] w fun e w' => ShiftRet w e w' D (turnE D ps ord) := by
  have hB := below_step (below_step (below_alloc w (.cells #[.int .i64 D, .slice A n c] 24)) (below_alloc _ (.cells #[.slice O m oc] 33))) (below_alloc _ (.cells #[.int .i64 0, .slice none 0 0] 24))
  have X1 := ((SetBox.new w D A n c).alloc (.cells #[.slice O m oc] 33)).alloc (.cells #[.int .i64 0, .slice none 0 0] 24)
  have X2 : OBox (((w.alloc (.cells #[.int .i64 D, .slice A n c] 24)).alloc (.cells #[.slice O m oc] 33)).alloc (.cells #[.int .i64 0, .slice none 0 0] 24)) (w.heap.size + 1) O m oc := by
    have := heap_alloc_new (w.alloc (.cells #[.int .i64 D, .slice A n c] 24)) (.cells #[.slice O m oc] 33)
    rw [World.size_alloc] at this
    exact (Below.heap_alloc _ _ _ (by simp)).trans this
  have X4 := SetBox.new ((w.alloc (.cells #[.int .i64 D, .slice A n c] 24)).alloc (.cells #[.slice O m oc] 33)) 0 none 0 0
  simp only [World.size_alloc] at X4
  have P1 := h.step hB
  have I1 := hO.step hB
  have x0 := X1.c0
  have x1 := X1.c1
  have x2 := X2.c
  have hsm := hO.small
  have HOL := Lib.hid hO.len
  clear h hO
  cases hv : validS D ps
  · have HV := Lib.hid hv
    have HR := Lib.hid (show turnE D ps ord = (1, []) by unfold turnE; rw [if_pos hv])
    rw [HR.out]
    clear hv
    go_enter Try.func23, Try.ntmps23
    go_wp2_with (first | (go_at_call 16; refine (set_valid D A n c ps _ P1).mono ?_; rintro e w1 ⟨rfl, hb1⟩; rw [HV.out]; replace hB := below_step hB hb1; have P2 := P1.step hb1; have Y1 := X1.step hb1; have Y2 := X2.step hb1; have Y4 := X4.step hb1; have I2 := I1.step hb1; clear x0 x1 x2; have c0 := Y1.c0; have c1 := Y1.c1; have ci := Y2.c; have z0 := Y4.c0; have z1 := Y4.c1; have f0 := Y4.f 0; have f1 := Y4.f 1))
    have X5 := Y4.put 0 none 0 0; have hb8 := below_put (w := w1) (N := w.heap.size) (b := w.heap.size + 1 + 1) (by omega) (.int .i64 0) (.slice none 0 0); generalize (w1.setCell ⟨w.heap.size + 1 + 1, 0, none⟩ (.int .i64 0)).setCell ⟨w.heap.size + 1 + 1, 1, none⟩ (.slice none 0 0) = w5 at *; have y0 := X5.c0; have y1 := X5.c1; try rw [Exit.noGoto_ret]
    refine bodyPost_ret (v := .tuple #[setV 0 none 0 0, .int .i64 1]) (by simp [results, Try.results23, go_sem, y0, y1]) rfl ?_
    exact shift_bad (by decide) (hB.trans hb8)
  · have HV := Lib.hid hv
    have hE := valid_els hv
    obtain ⟨hD0, hD1, hL⟩ := hE.1
    have HE := Lib.hid hE.2
    by_cases hd : (m : Int) = D
    · have HDM := Lib.hid hd
      have q1 : ((m : Int) != D) = false := by simpa using hd
      have q2 : ((m : Int) == D) = true := by simpa using hd
      obtain ⟨r, hr⟩ : ∃ r, turnE D ps ord = r := ⟨_, rfl⟩
      have HR := Lib.hid (show r = (if ¬ okOrd D ord then (6, []) else (0, (ps.map PEl.dat).map fun d => d.map (chgD fun xs K => (turnL xs ord, K)))) by
        rw [← hr]; unfold turnE; rw [if_neg (by rw [hv]; simp), if_neg (by rw [HOL.out]; simpa using hd)])
      rw [hr]
      have hn400 : n ≤ 400 := by have := P1.len; omega
      have HN := Lib.hid (show n ≤ 1000 by omega)
      have HM := Lib.hid (fun p (hp : p ∈ ps) => (show p.n ≤ 1000 by have := (HE.out p hp).1; have := (P1.conds p hp).len; omega))
      have hm12 : m ≤ 12 := by omega
      clear hd
      have HZ0 := Lib.hid (show (seenA []).toArray = #[.bool false, .bool false, .bool false, .bool false, .bool false, .bool false, .bool false, .bool false, .bool false, .bool false, .bool false, .bool false] from by rfl)
      clear hv hE hL hr hn400
      go_enter Try.func23, Try.ntmps23
      go_wp2_with (first | ((go_at_call 16; refine (set_valid D A n c ps _ P1).mono ?_; rintro e w1 ⟨rfl, hb1⟩; rw [HV.out]; replace hB := below_step hB hb1; have P2 := P1.step hb1; have Y1 := X1.step hb1; have Y2 := X2.step hb1; have Y4 := X4.step hb1; have I2 := I1.step hb1; clear x0 x1 x2; have c0 := Y1.c0; have c1 := Y1.c1; have ci := Y2.c; have z0 := Y4.c0; have z1 := Y4.c1; have f0 := Y4.f 0; have f1 := Y4.f 1); have b5 := below_alloc w1 (.cells #[.bool false, .bool false, .bool false, .bool false, .bool false, .bool false, .bool false, .bool false, .bool false, .bool false, .bool false, .bool false] 67); have e0 := (Y1.step b5).c0; have e1 := (Y1.step b5).c1; have ei := (Y2.step b5).c))
      have HL1 := Lib.hid Y4.lt
      have B5 : SeenBox (w1.alloc (.cells #[.bool false, .bool false, .bool false, .bool false, .bool false, .bool false, .bool false, .bool false, .bool false, .bool false, .bool false, .bool false] 67)) w1.heap.size (ord.take 0) := by
        unfold SeenBox
        rw [List.take_zero, HZ0.out]
        exact heap_alloc_new w1 _
      generalize hw5 : w1.alloc (.cells #[.bool false, .bool false, .bool false, .bool false, .bool false, .bool false, .bool false, .bool false, .bool false, .bool false, .bool false, .bool false] 67) = w5 at *
      clear hw5 c0 c1 ci z0 z1 f0 f1 e0 e1 ei
      go_loopw [21] (fun v wr => ∃ i : Nat, i ≤ m ∧ v = .int .i64 i ∧ Hid (okOrd D (ord.take i)) ∧ SeenBox wr w1.heap.size (ord.take i) ∧ Below w1.heap.size w1 wr) (fun v _ => m - (intOf v).toNat)
      case atStart => exact ⟨0, Nat.zero_le _, rfl, Lib.hid (okOrd_zero D ord), B5, b5⟩
      case round =>
        clear B5 b5
        obtain ⟨i, hi, rfl, HK, hS, hbr⟩ := hrel
        have c0 := (Y1.step hbr).c0
        by_cases hlt : i < m
        · obtain ⟨b, off, rfl, hblt, hc⟩ := I2.cells (by omega)
          obtain ⟨u, hu⟩ : ∃ u, ord[i]?.getD 0 = u := ⟨_, rfl⟩
          have hou : ord[i]? = some u := by
            have hil : i < ord.length := by rw [HOL.out]; exact hlt
            rw [List.getElem?_eq_getElem hil] at hu ⊢
            rw [← hu]; rfl
          have hcell := (hbr.cell (p := ⟨b, off + i, none⟩) hblt).trans (hc i hlt)
          rw [hu] at hcell
          have hq1 : (i : Int) < m := by omega
          have HOU := Lib.hid hou
          have Z5 := Y4.step hbr
          have z0 := Z5.c0
          have z1 := Z5.c1
          have f0 := Z5.f 0
          have f1 := Z5.f 1
          have hbz := below_step hB hbr
          clear hc hu hou
          by_cases hb0 : u < 0
          · have HR2 := Lib.hid (show r = (6, []) by rw [HR.out, if_pos (okOrd_bad HOU.out (.inl (by omega)))])
            go_wp2
            have X5 := Z5.put 0 none 0 0
            have hb8 := below_put (w := wr) (N := w.heap.size) (b := w.heap.size + 1 + 1) (by omega) (.int .i64 0) (.slice none 0 0)
            generalize (wr.setCell ⟨w.heap.size + 1 + 1, 0, none⟩ (.int .i64 0)).setCell ⟨w.heap.size + 1 + 1, 1, none⟩ (.slice none 0 0) = w6 at *
            have y0 := X5.c0
            have y1 := X5.c1
            try rw [Exit.noGoto_ret]
            refine bodyPost_ret (v := .tuple #[setV 0 none 0 0, .int .i64 6]) (by simp [results, Try.results23, go_sem, y0, y1]) rfl ?_
            rw [HR2.out]
            exact shift_bad (by decide) (hbz.trans hb8)
          · by_cases hb1 : D ≤ u
            · have HR2 := Lib.hid (show r = (6, []) by rw [HR.out, if_pos (okOrd_bad HOU.out (.inl (by omega)))])
              go_wp2
              have X5 := Z5.put 0 none 0 0
              have hb8 := below_put (w := wr) (N := w.heap.size) (b := w.heap.size + 1 + 1) (by omega) (.int .i64 0) (.slice none 0 0)
              generalize (wr.setCell ⟨w.heap.size + 1 + 1, 0, none⟩ (.int .i64 0)).setCell ⟨w.heap.size + 1 + 1, 1, none⟩ (.slice none 0 0) = w6 at *
              have y0 := X5.c0
              have y1 := X5.c1
              try rw [Exit.noGoto_ret]
              refine bodyPost_ret (v := .tuple #[setV 0 none 0 0, .int .i64 6]) (by simp [results, Try.results23, go_sem, y0, y1]) rfl ?_
              rw [HR2.out]
              exact shift_bad (by decide) (hbz.trans hb8)
            · obtain ⟨k, rfl⟩ : ∃ k : Nat, u = k := ⟨u.toNat, by omega⟩
              have hk12 : k < 12 := by have := HDM.out; omega
              have hk : (k : Int) < 12 := by omega
              have hsc := hS.c hk12
              have hsf := hS.f k
              by_cases hmem : (k : Int) ∈ ord.take i
              · have HR2 := Lib.hid (show r = (6, []) by rw [HR.out, if_pos (okOrd_bad HOU.out (.inr hmem))])
                rw [decide_eq_true hmem] at hsc
                go_wp2
                have X5 := Z5.put 0 none 0 0
                have hb8 := below_put (w := wr) (N := w.heap.size) (b := w.heap.size + 1 + 1) (by omega) (.int .i64 0) (.slice none 0 0)
                generalize (wr.setCell ⟨w.heap.size + 1 + 1, 0, none⟩ (.int .i64 0)).setCell ⟨w.heap.size + 1 + 1, 1, none⟩ (.slice none 0 0) = w6 at *
                have y0 := X5.c0
                have y1 := X5.c1
                try rw [Exit.noGoto_ret]
                refine bodyPost_ret (v := .tuple #[setV 0 none 0 0, .int .i64 6]) (by simp [results, Try.results23, go_sem, y0, y1]) rfl ?_
                rw [HR2.out]
                exact shift_bad (by decide) (hbz.trans hb8)
              · have HKN := Lib.hid (okOrd_next HK.out HOU.out (by omega) hmem)
                rw [decide_eq_false hmem] at hsc
                have hS2 := hS.put hk12
                have HTK := Lib.hid (show ord.take (i + 1) = ord.take i ++ [(k : Int)] by rw [List.take_add_one, HOU.out]; rfl)
                have hb6 := hbr.setCell (p := ⟨w1.heap.size, k, none⟩) (Nat.le_refl _) (.bool true)
                clear hmem
                go_wp2
                go_roundw
                case rel => exact ⟨i + 1, by omega, by go_num, HKN, by rw [HTK.out]; exact hS2, hb6⟩
                case measure => simp [intOf]; omega
        · obtain rfl : i = m := by omega
          rw [List.take_of_length_le (by rw [HOL.out]; exact Nat.le_refl _)] at HK
          have HR2 := Lib.hid (show r = (0, (ps.map PEl.dat).map fun d => d.map (chgD fun xs K => (turnL xs ord, K))) by rw [HR.out, if_neg (fun h => h HK.out)])
          have c1 := (Y1.step hbr).c1
          have P3 := P2.step hbr
          have S3 := Y1.step hbr
          have O3 := Y2.step hbr
          have I3 := I2.step hbr
          have Z3 := Y4.step hbr
          have hbz := below_step hB hbr
          have hsz := hbz.size
          have hz3 := Y4.lt
          have hws := hbr.size
          have HF := Lib.hid (fun (W : World) (hb : Below wr.heap.size wr W) (p : PEl) (hp : p ∈ ps) (e : CEl) (he : e ∈ p.els) =>
            (show Calls Try.prog 48 (#[.agg #[.slice e.A e.n e.c, .int .i64 e.K]] ++ #[.pointer (some ⟨w.heap.size, 0, none⟩), .pointer (some ⟨w.heap.size + 1, 0, none⟩)]) W fun x W' => LinOwn W x W' (turnL e.xs ord) e.K from by
              have hx := (HE.out p hp).2 e he
              have hni : e.n = i := by have := HDM.out; omega
              refine turn_fn e.A e.n e.c e.K e.xs ord O oc _ _ A n c W (((P3.conds p hp).ints e he).step hb) (by rw [hni]; exact I3.step hb) (by rw [hni, HDM.out]; exact HK.out.1) (by omega) (by rw [hx.2]; exact S3.step hb) (by rw [hni]; exact O3.step hb)))
          clear hlt
          go_wp2_with (first
            | (go_at_call 44; refine (set_changed D A n c ps D _ _ (fun xs K => (turnL xs ord, K)) (enters_of Try.func48 (by kernel_rfl) rfl) wr P3 HN.out HM.out HF.out).mono ?_; rintro e w3 ⟨g, qs, rfl, hP3, hok3, hd3, hg3, hb3⟩; have Z4 := Z3.step hb3; have z0 := Z4.c0; have z1 := Z4.c1; have f0 := Z4.f 0; have f1 := Z4.f 1))
          have X5 := Z4.put D (some ⟨g, 0, none⟩) n n
          have hok5 : ∀ p ∈ qs, PieceAny 0 ((w3.setCell ⟨w.heap.size + 1 + 1, 0, none⟩ (.int .i64 D)).setCell ⟨w.heap.size + 1 + 1, 1, none⟩ (.slice (some ⟨g, 0, none⟩) n n)) p := fun p hp => (hok3 p hp).put (Nat.zero_le _) Z4 _ _
          have hP5 := pieces_again hP3 (fun p hp => (hok5 p hp).conds) (by simp [World.setCell]) (fun _ g' o hA => by cases hA; exact put_other (by omega) _ _)
          have hb5 := (below_step hbz hb3).trans (below_put (w := w3) (N := w.heap.size) (b := w.heap.size + 1 + 1) (by omega) (.int .i64 D) (.slice (some ⟨g, 0, none⟩) n n))
          generalize (w3.setCell ⟨w.heap.size + 1 + 1, 0, none⟩ (.int .i64 D)).setCell ⟨w.heap.size + 1 + 1, 1, none⟩ (.slice (some ⟨g, 0, none⟩) n n) = w6 at *
          have y0 := X5.c0
          have y1 := X5.c1
          refine bodyPost_ret (v := .tuple #[setV D (some ⟨g, 0, none⟩) n n, .int .i64 0]) (by simp [results, Try.results23, go_sem, y0, y1]) rfl ?_
          rw [HR2.out]
          exact shift_ok hP5 (fun p hp => (hok5 p hp).mono (Nat.zero_le _)) (by rw [hd3, List.map_map]; rfl) hb5
    · have HR := Lib.hid (show turnE D ps ord = (2, []) by unfold turnE; rw [if_neg (by rw [hv]; simp), if_pos (by rw [HOL.out]; exact hd)])
      rw [HR.out]
      have q1 : ((m : Int) != D) = true := by simpa using hd
      have q2 : ((m : Int) == D) = false := by simpa using hd
      clear hv hE hL hd
      go_enter Try.func23, Try.ntmps23
      go_wp2_with (first | (go_at_call 16; refine (set_valid D A n c ps _ P1).mono ?_; rintro e w1 ⟨rfl, hb1⟩; rw [HV.out]; replace hB := below_step hB hb1; have P2 := P1.step hb1; have Y1 := X1.step hb1; have Y2 := X2.step hb1; have Y4 := X4.step hb1; have I2 := I1.step hb1; clear x0 x1 x2; have c0 := Y1.c0; have c1 := Y1.c1; have ci := Y2.c; have z0 := Y4.c0; have z1 := Y4.c1; have f0 := Y4.f 0; have f1 := Y4.f 1))
      have X5 := Y4.put 0 none 0 0; have hb8 := below_put (w := w1) (N := w.heap.size) (b := w.heap.size + 1 + 1) (by omega) (.int .i64 0) (.slice none 0 0); generalize (w1.setCell ⟨w.heap.size + 1 + 1, 0, none⟩ (.int .i64 0)).setCell ⟨w.heap.size + 1 + 1, 1, none⟩ (.slice none 0 0) = w5 at *; have y0 := X5.c0; have y1 := X5.c1; try rw [Exit.noGoto_ret]
      refine bodyPost_ret (v := .tuple #[setV 0 none 0 0, .int .i64 2]) (by simp [results, Try.results23, go_sem, y0, y1]) rfl ?_
      exact shift_bad (by decide) (hB.trans hb8)
end Go.Proofs.Ytkgnlloioaobiaa
namespace Go.Proofs.Ytkgnlloioaobiaa
open Go.RowKit Go.Shelf
set_option maxHeartbeats 16000000 in
theorem ref_sturn (D : Int) (A : Option Addr) (n c : Nat) (ps : List PEl) (O : Option Addr) (m oc : Nat) (ord : List Int) (w : World) (h : PiecesAt w A n ps) (hO : IntsAt w O m ord) (hoc : m ≤ oc) :
    Calls Try.prog 24 #[setV D A n c, .slice O m oc] w fun e w' => ShiftRet w e w' D (turnE D ps ord) := by
  have hB := below_step (below_alloc w (.cells #[.int .i64 D, .slice A n c] 24)) (below_alloc _ (.cells #[.int .i64 0, .slice none 0 0] 24))
  have X1 := (SetBox.new w D A n c).alloc (.cells #[.int .i64 0, .slice none 0 0] 24)
  have X4 := SetBox.new (w.alloc (.cells #[.int .i64 D, .slice A n c] 24)) 0 none 0 0
  simp only [World.size_alloc] at X4
  have P1 := h.step hB
  have I1 := hO.step hB
  have x0 := X1.c0
  have x1 := X1.c1
  have hsm := hO.small
  have HOL := Lib.hid hO.len
  clear h hO
  cases hv : validS D ps
  · have HV := Lib.hid hv
    have HR := Lib.hid (show turnE D ps ord = (1, []) by unfold turnE; rw [if_pos hv])
    rw [HR.out]
    clear hv
    go_enter Try.func24, Try.ntmps24
    go_wp2_with (first | (go_at_call 17; refine (ref_svalid D A n c ps _ P1).mono ?_; rintro e w1 ⟨rfl, hb1⟩; rw [HV.out]; replace hB := below_step hB hb1; have P2 := P1.step hb1; have I2 := I1.step hb1; have Y1 := X1.step hb1; have Y4 := X4.step hb1; clear x0 x1; have c0 := Y1.c0; have c1 := Y1.c1; have z0 := Y4.c0; have z1 := Y4.c1; have f0 := Y4.f 0; have f1 := Y4.f 1))
    have X5 := Y4.put 0 none 0 0; have hb8 := below_put (w := w1) (N := w.heap.size) (b := w.heap.size + 1) (by omega) (.int .i64 0) (.slice none 0 0); generalize (w1.setCell ⟨w.heap.size + 1, 0, none⟩ (.int .i64 0)).setCell ⟨w.heap.size + 1, 1, none⟩ (.slice none 0 0) = w5 at *; have y0 := X5.c0; have y1 := X5.c1; try rw [Exit.noGoto_ret]
    refine bodyPost_ret (v := .tuple #[setV 0 none 0 0, .int .i64 1]) (by simp [results, Try.results24, go_sem, y0, y1]) rfl ?_
    exact shift_bad (by decide) (hB.trans hb8)
  · have HV := Lib.hid hv
    have hE := valid_els hv
    obtain ⟨hD0, hD1, hL⟩ := hE.1
    have HE := Lib.hid hE.2
    by_cases hd : (m : Int) = D
    · have HDM := Lib.hid hd
      have q1 : ((m : Int) != D) = false := by simpa using hd
      have q2 : ((m : Int) == D) = true := by simpa using hd
      obtain ⟨r, hr⟩ : ∃ r, turnE D ps ord = r := ⟨_, rfl⟩
      have HR := Lib.hid (show r = (if ¬ okOrd D ord then (6, []) else (0, (ps.map PEl.dat).map fun d => d.map (chgD fun xs K => (turnL xs ord, K)))) by
        rw [← hr]; unfold turnE; rw [if_neg (by rw [hv]; simp), if_neg (by rw [HOL.out]; simpa using hd)])
      rw [hr]
      have hn400 : n ≤ 400 := by have := P1.len; omega
      have HNL := Lib.hid P1.len
      have hm12 : m ≤ 12 := by omega
      obtain ⟨L, hLL⟩ : ∃ L, ((ps.map PEl.dat).map fun d => d.map (chgD fun xs K => (turnL xs ord, K))) = L := ⟨_, rfl⟩
      rw [hLL] at HR
      have HLL := Lib.hid hLL
      clear hv hE hL hr hLL hd
      go_enter Try.func24, Try.ntmps24
      go_wp2_with (first | (go_at_call 17; refine (ref_svalid D A n c ps _ P1).mono ?_; rintro e w1 ⟨rfl, hb1⟩; rw [HV.out]; replace hB := below_step hB hb1; have P2 := P1.step hb1; have I2 := I1.step hb1; have Y1 := X1.step hb1; have Y4 := X4.step hb1; clear x0 x1; have c0 := Y1.c0; have c1 := Y1.c1; have z0 := Y4.c0; have z1 := Y4.c1; have f0 := Y4.f 0; have f1 := Y4.f 1))
      clear c0 c1 z0 z1 f0 f1
      go_loopw [31] (fun v wr => ∃ i : Nat, i ≤ m ∧ v = .int .i64 i ∧ Hid (okOrd D (ord.take i)) ∧ Below w1.heap.size w1 wr) (fun v _ => m - (intOf v).toNat)
      case atStart => exact ⟨0, Nat.zero_le _, rfl, Lib.hid (okOrd_zero D ord), Below.refl _ _⟩
      case round =>
        obtain ⟨i, hi, rfl, HK, hbr⟩ := hrel
        have c0 := (Y1.step hbr).c0
        by_cases hlt : i < m
        · obtain ⟨b, off, rfl, hblt, hc⟩ := I2.cells (by omega)
          obtain ⟨u, hu⟩ : ∃ u, ord[i]?.getD 0 = u := ⟨_, rfl⟩
          have hou : ord[i]? = some u := by
            have hil : i < ord.length := by rw [HOL.out]; exact hlt
            rw [List.getElem?_eq_getElem hil] at hu ⊢
            rw [← hu]; rfl
          have hcell := (hbr.cell (p := ⟨b, off + i, none⟩) hblt).trans (hc i hlt)
          rw [hu] at hcell
          have hq1 : (i : Int) < m := by omega
          have HOU := Lib.hid hou
          have Z5 := Y4.step hbr
          have z0 := Z5.c0
          have z1 := Z5.c1
          have f0 := Z5.f 0
          have f1 := Z5.f 1
          have hbz := below_step hB hbr
          clear hu hou
          by_cases hb0 : u < 0
          · have HR2 := Lib.hid (show r = (6, []) by rw [HR.out, if_pos (okOrd_bad HOU.out (.inl (by omega)))])
            go_wp2
            (have X5 := Z5.put 0 none 0 0; have hb8 := below_put (w := wr) (N := w.heap.size) (b := w.heap.size + 1) (by omega) (.int .i64 0) (.slice none 0 0); generalize (wr.setCell ⟨w.heap.size + 1, 0, none⟩ (.int .i64 0)).setCell ⟨w.heap.size + 1, 1, none⟩ (.slice none 0 0) = w6 at *; have y0 := X5.c0; have y1 := X5.c1; (try rw [Exit.noGoto_ret]); refine bodyPost_ret (v := .tuple #[setV 0 none 0 0, .int .i64 6]) (by simp [results, Try.results24, go_sem, y0, y1]) rfl ?_; rw [HR2.out]; exact shift_bad (by decide) (hbz.trans hb8))
          · by_cases hb1 : D ≤ u
            · have HR2 := Lib.hid (show r = (6, []) by rw [HR.out, if_pos (okOrd_bad HOU.out (.inl (by omega)))])
              go_wp2
              (have X5 := Z5.put 0 none 0 0; have hb8 := below_put (w := wr) (N := w.heap.size) (b := w.heap.size + 1) (by omega) (.int .i64 0) (.slice none 0 0); generalize (wr.setCell ⟨w.heap.size + 1, 0, none⟩ (.int .i64 0)).setCell ⟨w.heap.size + 1, 1, none⟩ (.slice none 0 0) = w6 at *; have y0 := X5.c0; have y1 := X5.c1; (try rw [Exit.noGoto_ret]); refine bodyPost_ret (v := .tuple #[setV 0 none 0 0, .int .i64 6]) (by simp [results, Try.results24, go_sem, y0, y1]) rfl ?_; rw [HR2.out]; exact shift_bad (by decide) (hbz.trans hb8))
            · have hq3 : (i : Int) ≤ oc := by omega
              have hq4 : (i : Int) ≤ m := by omega
              have HKI := Lib.hid hc
              have HU0 := Lib.hid (show 0 ≤ u ∧ u < D by omega)
              go_wp2
              generalize hwr : wr = wo at *
              clear hwr hcell z0 z1 f0 f1 c0
              go_loopw [49] (fun v wt => ∃ j : Nat, j ≤ i ∧ v = .int .i64 j ∧ Hid (∀ t x, t < j → ord[t]? = some x → x ≠ u) ∧ Below w1.heap.size w1 wt) (fun v _ => i - (intOf v).toNat)
              case atStart => exact ⟨0, Nat.zero_le _, rfl, Lib.hid (fun t x h => absurd h (Nat.not_lt_zero _)), hbr⟩
              case round =>
                clear hbr hbz Z5
                obtain ⟨j, hj, rfl, HJ, hbr⟩ := hrel
                by_cases hlt3 : j < i
                · obtain ⟨x, hx⟩ : ∃ x, ord[j]?.getD 0 = x := ⟨_, rfl⟩
                  have hox : ord[j]? = some x := by
                    have hil : j < ord.length := by rw [HOL.out]; omega
                    rw [List.getElem?_eq_getElem hil] at hx ⊢
                    rw [← hx]; rfl
                  have hcj := (hbr.cell (p := ⟨b, off + j, none⟩) hblt).trans (HKI.out j (by omega))
                  rw [hx] at hcj
                  have HOX := Lib.hid hox
                  have hq5 : (j : Int) < i := by omega
                  have Z5 := Y4.step hbr
                  have z0 := Z5.c0
                  have z1 := Z5.c1
                  have f0 := Z5.f 0
                  have f1 := Z5.f 1
                  have hbz := below_step hB hbr
                  clear hx hox
                  by_cases hxu : u = x
                  · have HR2 := Lib.hid (show r = (6, []) by
                      rw [HR.out, if_pos (okOrd_bad HOU.out (.inr ?_))]
                      rw [hxu]
                      refine List.mem_of_getElem? (i := j) ?_
                      rw [List.getElem?_take, if_pos hlt3]
                      exact HOX.out)
                    have e1 : (u == x) = true := by simpa using hxu
                    go_wp2
                    (have X5 := Z5.put 0 none 0 0; have hb8 := below_put (w := wr) (N := w.heap.size) (b := w.heap.size + 1) (by omega) (.int .i64 0) (.slice none 0 0); generalize (wr.setCell ⟨w.heap.size + 1, 0, none⟩ (.int .i64 0)).setCell ⟨w.heap.size + 1, 1, none⟩ (.slice none 0 0) = w6 at *; have y0 := X5.c0; have y1 := X5.c1; (try rw [Exit.noGoto_ret]); refine bodyPost_ret (v := .tuple #[setV 0 none 0 0, .int .i64 6]) (by simp [results, Try.results24, go_sem, y0, y1]) rfl ?_; rw [HR2.out]; exact shift_bad (by decide) (hbz.trans hb8))
                  · have e1 : (u == x) = false := by simpa using hxu
                    have HJ2 := Lib.hid (show ∀ t y, t < j + 1 → ord[t]? = some y → y ≠ u from fun t y ht hy => by
                      rcases Nat.lt_or_eq_of_le (Nat.le_of_lt_succ ht) with h | rfl
                      · exact HJ.out t y h hy
                      · rw [HOX.out] at hy; cases hy; exact fun h => hxu h.symm)
                    go_wp2
                    go_roundw
                    case rel => exact ⟨j + 1, by omega, by go_num, HJ2, hbr⟩
                    case measure => simp [intOf]; omega
                · obtain rfl : j = i := by omega
                  have HKN := Lib.hid (okOrd_next HK.out HOU.out HU0.out (fun hm => by
                    obtain ⟨t, ht, e⟩ := List.getElem_of_mem hm
                    rw [List.length_take] at ht
                    refine HJ.out t u (by omega) ?_ rfl
                    rw [← e, List.getElem_take, List.getElem?_eq_getElem (by omega)]))
                  go_wp2
                  go_roundw
                  case rel => exact ⟨j + 1, by omega, by go_num, HKN, hbr⟩
                  case measure => simp [intOf]; omega
        · obtain rfl : i = m := by omega
          rw [List.take_of_length_le (by rw [HOL.out]; exact Nat.le_refl _)] at HK
          have HR2 := Lib.hid (show r = (0, L) by rw [HR.out, if_neg (fun h => h HK.out)])
          replace P2 := P2.step hbr
          replace Y1 := Y1.step hbr
          replace Y4 := Y4.step hbr
          replace I2 := I2.step hbr
          replace hB := below_step hB hbr
          generalize hww : wr = w2 at *
          clear hww hbr hlt c0
          have b5 := below_alloc w2 (.cells #[.int .i64 D, .slice none 0 0] 24)
          have c0 := Y1.c0
          have e0 := (Y1.step b5).c0
          have e1 := (Y1.step b5).c1
          go_wp2
          have hl4 := Y4.lt
          have O5 := SetBox.new w2 D none 0 0
          generalize hw5 : w2.alloc (.cells #[.int .i64 D, .slice none 0 0] 24) = w5 at *
          clear hw5 c0 e0 e1
          go_loopw [65] (fun v wr => ∃ (t : Nat) (vs : List PEl) (Av : Option Addr) (cv : Nat), t ≤ n ∧ v = .int .i64 t ∧ SetBox wr w2.heap.size D Av vs.length cv ∧ PL3 w2.heap.size wr (.slice Av vs.length cv) vs ∧ (∀ p ∈ vs, PieceAny 0 wr p) ∧ Hid (vs.map PEl.dat = L.take t) ∧ Below w2.heap.size w2 wr) (fun v _ => n - (intOf v).toNat)
          case atStart => exact ⟨0, [], none, 0, Nat.zero_le _, rfl, O5, PL3.nil _ _, (fun p h => nomatch h), Lib.hid (by simp), b5⟩
          case round =>
            clear O5 b5
            obtain ⟨t, vs, Av, cv, ht, rfl, hO, hU, hT, HD, hbr⟩ := hrel
            by_cases hlt : t < n
            · obtain ⟨b, off, p, rfl, hblt, hpj, hmem, hcell, hCp⟩ := (P2.step hbr).at hlt
              have HPJ := Lib.hid hpj
              have HPM := Lib.hid hmem
              have HLJ := Lib.hid (show L[t]? = some (p.dat.map (chgD fun xs K => (turnL xs ord, K))) by rw [← HLL.out, List.map_map, List.getElem?_map, hpj]; rfl)
              have HEP := Lib.hid (HE.out p hmem)
              obtain ⟨pA, pn, pc, pels⟩ := p
              simp only at hcell hCp HEP
              have hq1 : (t : Int) < n := by omega
              have HPL := Lib.hid hCp.len
              have hpn : pn ≤ 96 := by have := HEP.out.1; have := HPL.out; omega
              clear hpj hmem hCp
              go_wp2
              generalize hwr : wr = wo at *
              clear hwr hcell
              go_loopw [13, 71] (fun u k wt => ∃ (j : Nat) (us : List CEl), j ≤ pn ∧ k = .int .i64 j ∧ CL2 w2.heap.size wo.heap.size wt u us ∧ Hid (us.map CEl.d = (pels.take j).map fun e => chgD (fun xs K => (turnL xs ord, K)) e.d) ∧ Below wo.heap.size wo wt) (fun _ k _ => pn - (intOf k).toNat)
              case atStart => exact ⟨0, [], Nat.zero_le _, rfl, CL2.nil _ _ _, Lib.hid (by simp), Below.refl _ _⟩
              case round =>
                obtain ⟨j, us, hj, rfl, hQ, HUD, hbs⟩ := hrel
                obtain ⟨Aq, cq, rfl⟩ := hQ.slice
                have hbw := hbr.trans (hbs.mono hbr.size)
                by_cases hlt2 : j < pn
                · obtain ⟨b2, off2, e, hpA, hb2lt, hej, hem, hcs, hin⟩ := ((P2.conds _ HPM.out).step hbw).at hlt2
                  have hpA : pA = some ⟨b2, off2, none⟩ := hpA
                  subst hpA
                  obtain ⟨x0, x1, x2, x3⟩ := hcs
                  have HEJ := Lib.hid (show pels[j]? = some e from hej)
                  obtain ⟨hvc, hen⟩ := HEP.out.2 e hem
                  obtain ⟨eq, eM, eA, en, ec, eK, exs⟩ := e
                  simp only at x0 x1 x2 x3 hin hvc hen
                  have hq2 : (j : Int) < pn := by omega
                  obtain rfl : i = en := by have := HDM.out; omega
                  clear hen
                  have b5 := below_alloc wr (.cells #[.int .i64 eq, .int .i64 eM, .slice eA i ec, .int .i64 eK] 55)
                  have XC := CBox.new wr eq eM eA i ec eK
                  have I5 := hin.step b5
                  have Q5 := hQ.step b5
                  have J5 := (I2.step hbw).step b5
                  have c3 := XC.c3
                  have hmk := make_ints i (by omega)
                  have hwf := hin.wf
                  have hsz5 := b5.size
                  have hlx := XC.lt
                  have hbs5 := hbs.trans (b5.mono hbs.size)
                  clear hej hem hin hQ hlt2
                  go_wp2
                  clear x0 x1 x2 x3
                  generalize hw5 : wr.alloc (.cells #[.int .i64 eq, .int .i64 eM, .slice eA i ec, .int .i64 eK] 55) = w5 at *
                  clear hw5 b5
                  have n0 : w5.heap.size ≠ wr.heap.size := by omega
                  have n1 : w5.heap.size + 1 ≠ wr.heap.size := by omega
                  have hsx : wr.heap.size < w5.heap.size := hlx
                  have HWF := Lib.hid hwf
                  have HHR := Lib.hid HK.out.1
                  clear hwf
                  go_region_held3 (fun W => W.cell? ⟨wr.heap.size, 3, none⟩ = some (.int .i64 eK)) (go_keep) (fail)
                  · clear n0 n1 c3 hmk
                    rename_i hHeld
                    clear hHeld
                    have hF : ∃ W7, W7 = ((w5.alloc (.cells ((zeros i).map (Value.int .i64)).toArray 3)).alloc (.cells #[.slice (some ⟨w5.heap.size, 0, none⟩) i i, .int .i64 eK] 53)).drew ∧ LBox W7 (w5.heap.size + 1) (some ⟨w5.heap.size, 0, none⟩) i i eK ∧ OwnRow W7 (w5.heap.size) i (turnTo exs ord i 0) ∧ Below w5.heap.size w5 W7 := by
                      refine ⟨_, rfl, ?_⟩
                      rw [turn_zero]
                      have f1 := LBox.new (w5.alloc (.cells ((zeros i).map (Value.int .i64)).toArray 3)) (some ⟨w5.heap.size, 0, none⟩) i i eK
                      rw [World.size_alloc] at f1
                      exact ⟨f1.step (Below.refl _ _).drew, ((OwnRow.new w5 (zeros i) i (zeros_len i)).step (below_alloc _ (.cells #[.slice (some ⟨w5.heap.size, 0, none⟩) i i, .int .i64 eK] 53))).step (Below.refl _ _).drew, (below_step (below_alloc w5 _) (below_alloc _ _)).drew⟩
                    obtain ⟨w7, hw7, F1, F2, hb7⟩ := hF
                    rw [← hw7]
                    clear hw7
                    have XC7 := XC.step hb7
                    have hgr : w5.heap.size ≤ w5.heap.size := by omega
                    have hbm : w5.heap.size ≤ w5.heap.size + 1 := by omega
                    have hgb : w5.heap.size + 1 ≠ w5.heap.size := by omega
                    have hgx : wr.heap.size ≠ w5.heap.size := by omega
                    go_wp2
                    go_loopw [84] (fun v wt => ∃ q : Nat, q ≤ i ∧ v = .int .i64 q ∧ LBox wt (w5.heap.size + 1) (some ⟨w5.heap.size, 0, none⟩) i i eK ∧ OwnRow wt (w5.heap.size) i (turnTo exs ord i q) ∧ CBox wt wr.heap.size eq eM eA i ec eK ∧ Below w5.heap.size w5 wt) (fun v _ => i - (intOf v).toNat)
                    case atStart => exact ⟨0, Nat.zero_le _, rfl, F1, F2, XC7, hb7⟩
                    case round =>
                      clear F1 F2 XC7 hb7
                      obtain ⟨q, hq, rfl, F1, F2, XC7, hb7⟩ := hrel
                      by_cases hlq : q < i
                      · obtain ⟨bo, offo, rfl, hbo, hco⟩ := J5.cells (by omega)
                        obtain ⟨bl, offl, rfl, hbl, hcl⟩ := I5.cells (by omega)
                        have hor := HHR.out (ord[q]?.getD 0) (by rw [List.getElem?_eq_getElem (by have := HOL.out; omega)]; exact List.getElem_mem _)
                        obtain ⟨m', hm'⟩ : ∃ m' : Nat, ord[q]?.getD 0 = m' := ⟨(ord[q]?.getD 0).toNat, by omega⟩
                        have hml : m' < i := by rw [hm'] at hor; have := HDM.out; omega
                        have hcell := (hb7.cell (p := ⟨bl, offl + m', none⟩) hbl).trans (hcl m' hml)
                        have hcell' := (hb7.cell (p := ⟨bo, offo + q, none⟩) hbo).trans (hco q hlq)
                        rw [hm'] at hcell'
                        have HTS := Lib.hid (turn_step (xs := exs) HOL.out hlq)
                        rw [hm', Int.toNat_natCast] at HTS
                        have k0 := F1.c0
                        have k2 := XC7.c2
                        have hfr := F2.free q
                        have hcr := F2.cell hlq
                        have e1 : (q : Int) < i := by omega
                        have e2 : (m' : Int) < i := by omega
                        have G2 := F2.set hlq (exs[m']?.getD 0)
                        rw [HTS.out] at G2
                        have hbq : Below w5.heap.size wr (wr.setCell ⟨w5.heap.size, q, none⟩ (.int .i64 (exs[m']?.getD 0))) := (Below.refl _ _).setCell (p := ⟨w5.heap.size, q, none⟩) hgr _
                        have G1 := (F1.other (a := ⟨w5.heap.size, q, none⟩) hgb (.int .i64 (exs[m']?.getD 0))).step (Below.refl _ _).drew
                        have G3 := (XC7.below hbq hsx).step (Below.refl _ _).drew
                        have G4 := (hb7.trans hbq).drew
                        replace G2 := G2.step (Below.refl _ _).drew
                        clear hor hco hcl hm'
                        go_wp2
                        go_region
                        all_goals
                          go_wp2
                          go_roundw
                          case rel => exact ⟨q + 1, by omega, by go_num, G1, G2, G3, G4⟩
                          case measure => simp [intOf]; omega
                      · obtain rfl : q = i := by omega
                        rw [turn_all HOL.out] at F2
                        have hwt : ∀ x ∈ turnL exs ord, -9223372036854775808 ≤ x ∧ x ≤ 9223372036854775807 := fun x hx => by
                          obtain ⟨v, _, rfl⟩ := List.mem_map.1 hx
                          rcases Nat.lt_or_ge v.toNat exs.length with h | h
                          · rw [List.getElem?_eq_getElem h]; exact HWF.out _ (List.getElem_mem _)
                          · rw [List.getElem?_eq_none h]; simp
                        have I7 := F2.ints (by omega) hwt
                        have R7 : RowOk w2.heap.size wr (some ⟨w5.heap.size, 0, none⟩) q := .inr ⟨w5.heap.size, rfl, by have := hbw.size; omega, let ⟨_, cur, hc, hn, _⟩ := F2; ⟨cur, hc, hn⟩⟩
                        have Q7 := Q5.step hb7
                        have hbw7 := hbs5.trans (hb7.mono hbs5.size)
                        have b8 := below_alloc wr (.cells #[.int .i64 eq, .int .i64 eM, .slice (some ⟨w5.heap.size, 0, none⟩) q q, .int .i64 eK] 55)
                        have C8 := conds_of_one (w := wr.alloc (.cells #[.int .i64 eq, .int .i64 eM, .slice (some ⟨w5.heap.size, 0, none⟩) q q, .int .i64 eK] 55)) (g := wr.heap.size) (e := ⟨eq, eM, some ⟨w5.heap.size, 0, none⟩, q, q, eK, turnL exs ord⟩) (heap_alloc_new wr _) (I7.step b8)
                        have R8 : ∀ e ∈ [(⟨eq, eM, some ⟨w5.heap.size, 0, none⟩, q, q, eK, turnL exs ord⟩ : CEl)], RowOk w2.heap.size (wr.alloc (.cells #[.int .i64 eq, .int .i64 eM, .slice (some ⟨w5.heap.size, 0, none⟩) q q, .int .i64 eK] 55)) e.A e.n := fun e he => by rw [List.mem_singleton.1 he]; exact RowOk.step R7 b8
                        have hul : us.length + 1 ≤ 100000 := by
                          have h9 := congrArg List.length HUD.out
                          rw [List.length_map, List.length_map, List.length_take] at h9
                          have := HPL.out
                          omega
                        have hN8 := Nat.le_trans hbw7.size b8.size
                        have y0 := XC7.c0
                        have y1 := XC7.c1
                        have y2 := F1.c0
                        have y3 := F1.c1
                        go_wp2_with (at_builtin; refine wpList_append_view rfl _ _ 40 rfl rfl rfl (Q7.step b8) rfl C8 (fun h => nomatch h) (fun ad h => (by cases h; rfl)) R8 hul hN8 ?_; intro u9 w9 L9 hb9)
                        have hb10 := (hbw7.trans (b8.mono hbw7.size)).trans hb9
                        go_roundw
                        case rel => exact ⟨j + 1, _, by omega, by go_num, L9, Lib.hid (by
                          rw [List.map_append, HUD.out, List.take_add_one, HEJ.out, Option.toList_some, List.map_append]
                          rfl), hb10⟩
                        case measure => simp [intOf]; omega
                  · clear n0 n1 c3 hmk
                    rename_i hHeld
                    clear hHeld
                    have hF : ∃ W7, W7 = ((w5.alloc (.cells #[.slice (some ⟨w5.heap.size + 1, 0, none⟩) i i, .int .i64 eK] 53)).alloc (.cells ((zeros i).map (Value.int .i64)).toArray 3)).drew ∧ LBox W7 (w5.heap.size) (some ⟨w5.heap.size + 1, 0, none⟩) i i eK ∧ OwnRow W7 (w5.heap.size + 1) i (turnTo exs ord i 0) ∧ Below w5.heap.size w5 W7 := by
                      refine ⟨_, rfl, ?_⟩
                      rw [turn_zero]
                      have f2 := OwnRow.new (w5.alloc (.cells #[.slice (some ⟨w5.heap.size + 1, 0, none⟩) i i, .int .i64 eK] 53)) (zeros i) i (zeros_len i)
                      rw [World.size_alloc] at f2
                      exact ⟨((LBox.new w5 (some ⟨w5.heap.size + 1, 0, none⟩) i i eK).alloc (.cells ((zeros i).map (Value.int .i64)).toArray 3)).step (Below.refl _ _).drew, f2.step (Below.refl _ _).drew, (below_step (below_alloc w5 _) (below_alloc _ _)).drew⟩
                    obtain ⟨w7, hw7, F1, F2, hb7⟩ := hF
                    rw [← hw7]
                    clear hw7
                    have XC7 := XC.step hb7
                    have hgr : w5.heap.size ≤ w5.heap.size + 1 := by omega
                    have hbm : w5.heap.size ≤ w5.heap.size := by omega
                    have hgb : w5.heap.size ≠ w5.heap.size + 1 := by omega
                    have hgx : wr.heap.size ≠ w5.heap.size + 1 := by omega
                    go_wp2
                    go_loopw [84] (fun v wt => ∃ q : Nat, q ≤ i ∧ v = .int .i64 q ∧ LBox wt (w5.heap.size) (some ⟨w5.heap.size + 1, 0, none⟩) i i eK ∧ OwnRow wt (w5.heap.size + 1) i (turnTo exs ord i q) ∧ CBox wt wr.heap.size eq eM eA i ec eK ∧ Below w5.heap.size w5 wt) (fun v _ => i - (intOf v).toNat)
                    case atStart => exact ⟨0, Nat.zero_le _, rfl, F1, F2, XC7, hb7⟩
                    case round =>
                      clear F1 F2 XC7 hb7
                      obtain ⟨q, hq, rfl, F1, F2, XC7, hb7⟩ := hrel
                      by_cases hlq : q < i
                      · obtain ⟨bo, offo, rfl, hbo, hco⟩ := J5.cells (by omega)
                        obtain ⟨bl, offl, rfl, hbl, hcl⟩ := I5.cells (by omega)
                        have hor := HHR.out (ord[q]?.getD 0) (by rw [List.getElem?_eq_getElem (by have := HOL.out; omega)]; exact List.getElem_mem _)
                        obtain ⟨m', hm'⟩ : ∃ m' : Nat, ord[q]?.getD 0 = m' := ⟨(ord[q]?.getD 0).toNat, by omega⟩
                        have hml : m' < i := by rw [hm'] at hor; have := HDM.out; omega
                        have hcell := (hb7.cell (p := ⟨bl, offl + m', none⟩) hbl).trans (hcl m' hml)
                        have hcell' := (hb7.cell (p := ⟨bo, offo + q, none⟩) hbo).trans (hco q hlq)
                        rw [hm'] at hcell'
                        have HTS := Lib.hid (turn_step (xs := exs) HOL.out hlq)
                        rw [hm', Int.toNat_natCast] at HTS
                        have k0 := F1.c0
                        have k2 := XC7.c2
                        have hfr := F2.free q
                        have hcr := F2.cell hlq
                        have e1 : (q : Int) < i := by omega
                        have e2 : (m' : Int) < i := by omega
                        have G2 := F2.set hlq (exs[m']?.getD 0)
                        rw [HTS.out] at G2
                        have hbq : Below w5.heap.size wr (wr.setCell ⟨w5.heap.size + 1, q, none⟩ (.int .i64 (exs[m']?.getD 0))) := (Below.refl _ _).setCell (p := ⟨w5.heap.size + 1, q, none⟩) hgr _
                        have G1 := (F1.other (a := ⟨w5.heap.size + 1, q, none⟩) hgb (.int .i64 (exs[m']?.getD 0))).step (Below.refl _ _).drew
                        have G3 := (XC7.below hbq hsx).step (Below.refl _ _).drew
                        have G4 := (hb7.trans hbq).drew
                        replace G2 := G2.step (Below.refl _ _).drew
                        clear hor hco hcl hm'
                        go_wp2
                        go_region
                        all_goals
                          go_wp2
                          go_roundw
                          case rel => exact ⟨q + 1, by omega, by go_num, G1, G2, G3, G4⟩
                          case measure => simp [intOf]; omega
                      · obtain rfl : q = i := by omega
                        rw [turn_all HOL.out] at F2
                        have hwt : ∀ x ∈ turnL exs ord, -9223372036854775808 ≤ x ∧ x ≤ 9223372036854775807 := fun x hx => by
                          obtain ⟨v, _, rfl⟩ := List.mem_map.1 hx
                          rcases Nat.lt_or_ge v.toNat exs.length with h | h
                          · rw [List.getElem?_eq_getElem h]; exact HWF.out _ (List.getElem_mem _)
                          · rw [List.getElem?_eq_none h]; simp
                        have I7 := F2.ints (by omega) hwt
                        have R7 : RowOk w2.heap.size wr (some ⟨w5.heap.size + 1, 0, none⟩) q := .inr ⟨w5.heap.size + 1, rfl, by have := hbw.size; omega, let ⟨_, cur, hc, hn, _⟩ := F2; ⟨cur, hc, hn⟩⟩
                        have Q7 := Q5.step hb7
                        have hbw7 := hbs5.trans (hb7.mono hbs5.size)
                        have b8 := below_alloc wr (.cells #[.int .i64 eq, .int .i64 eM, .slice (some ⟨w5.heap.size + 1, 0, none⟩) q q, .int .i64 eK] 55)
                        have C8 := conds_of_one (w := wr.alloc (.cells #[.int .i64 eq, .int .i64 eM, .slice (some ⟨w5.heap.size + 1, 0, none⟩) q q, .int .i64 eK] 55)) (g := wr.heap.size) (e := ⟨eq, eM, some ⟨w5.heap.size + 1, 0, none⟩, q, q, eK, turnL exs ord⟩) (heap_alloc_new wr _) (I7.step b8)
                        have R8 : ∀ e ∈ [(⟨eq, eM, some ⟨w5.heap.size + 1, 0, none⟩, q, q, eK, turnL exs ord⟩ : CEl)], RowOk w2.heap.size (wr.alloc (.cells #[.int .i64 eq, .int .i64 eM, .slice (some ⟨w5.heap.size + 1, 0, none⟩) q q, .int .i64 eK] 55)) e.A e.n := fun e he => by rw [List.mem_singleton.1 he]; exact RowOk.step R7 b8
                        have hul : us.length + 1 ≤ 100000 := by
                          have h9 := congrArg List.length HUD.out
                          rw [List.length_map, List.length_map, List.length_take] at h9
                          have := HPL.out
                          omega
                        have hN8 := Nat.le_trans hbw7.size b8.size
                        have y0 := XC7.c0
                        have y1 := XC7.c1
                        have y2 := F1.c0
                        have y3 := F1.c1
                        go_wp2_with (at_builtin; refine wpList_append_view rfl _ _ 40 rfl rfl rfl (Q7.step b8) rfl C8 (fun h => nomatch h) (fun ad h => (by cases h; rfl)) R8 hul hN8 ?_; intro u9 w9 L9 hb9)
                        have hb10 := (hbw7.trans (b8.mono hbw7.size)).trans hb9
                        go_roundw
                        case rel => exact ⟨j + 1, _, by omega, by go_num, L9, Lib.hid (by
                          rw [List.map_append, HUD.out, List.take_add_one, HEJ.out, Option.toList_some, List.map_append]
                          rfl), hb10⟩
                        case measure => simp [intOf]; omega
                · obtain rfl : j = pn := by omega
                  have hUs := hU.step hbs
                  have hOs := hO.step hbs
                  have HPA0 := Lib.hid (PieceAny.of_cl3 (N := 0) (CL3.of_cl hQ) (fun e he => .inr ((hQ.rows e he).mono (Nat.zero_le _))))
                  have HUA := Lib.hid (show us.map CEl.d = pels.map fun e => chgD (fun xs K => (turnL xs ord, K)) e.d by rw [HUD.out, List.take_of_length_le (by rw [HPL.out]; exact Nat.le_refl _)])
                  have b8 := below_alloc wr (.cells #[.slice Aq us.length cq] 40)
                  have hPA := (PieceAny.of_cl3 (N := w2.heap.size) (CL3.of_cl hQ) (fun e he => .inr ((hQ.rows e he).mono (Nat.zero_le _)))).step b8
                  have hPO := pieces_of_one (w := wr.alloc (.cells #[.slice Aq us.length cq] 40)) (p := ⟨Aq, us.length, cq, us⟩) (heap_alloc_new wr _) hPA.conds
                  have hO8 := hOs.step b8
                  have HT8 := Lib.hid (show ∀ p ∈ vs ++ [(⟨Aq, us.length, cq, us⟩ : PEl)], PieceAny 0 (wr.alloc (.cells #[.slice Aq us.length cq] 40)) p from fun p hp => by
                    rcases List.mem_append.1 hp with hp | hp
                    · exact ((hT p hp).step hbs).step b8
                    · rw [List.mem_singleton.1 hp]; exact HPA0.out.step b8)
                  have hsz4 : w2.heap.size ≤ (wr.alloc (.cells #[.slice Aq us.length cq] 40)).heap.size := by have := hO8.lt; omega
                  have hvl : vs.length + 1 ≤ 4000000000 := by
                    have h9 := congrArg List.length HD.out
                    rw [List.length_map, List.length_take] at h9
                    have h8 := (List.getElem?_eq_some_iff.1 HLJ.out).1
                    omega
                  have HSN := Lib.hid (snoc_take HLJ.out)
                  have o1 := hOs.c1
                  obtain ⟨vn, hvn⟩ : ∃ vn, vs ++ [(⟨Aq, us.length, cq, us⟩ : PEl)] = vn := ⟨_, rfl⟩
                  have HVN := Lib.hid hvn
                  clear hvn
                  clear hQ hU hO hT
                  go_wp2_with (at_builtin; refine wpList_append_pieces2 rfl _ _ 22 rfl rfl rfl (hUs.step b8) rfl hPO (fun h => nomatch h) (fun p hp => by rw [List.mem_singleton.1 hp]; exact hPA) hvl hsz4 ?_; intro u9 w9 hU9 hb9 hst9 hpt9; have HT9 := Lib.hid (fun p hp => hpt9 p (HT8.out p hp)); rw [HVN.out] at hU9; obtain ⟨A9, c9, hu9⟩ := hU9.slice; subst hu9; have hO9 : SetBox w9 w2.heap.size D Av vs.length cv := hst9 _ _ _ hO8; have o2 := hO9.c1; have of2 := hO9.f 1)
                  have hO10 := hO9.set1 A9 vn.length c9
                  have hU10 := hU9.box (j := 1) (v := .slice A9 vn.length c9) (Nat.le_refl _) hO9
                  have hb10 := (((hbw.trans (b8.mono hbw.size)).trans (hb9.mono (Nat.le_refl _))).setCell (p := ⟨w2.heap.size, 1, none⟩) (by show w2.heap.size ≤ w2.heap.size; exact Nat.le_refl _) (.slice A9 vn.length c9))
                  have HDN := Lib.hid (show vn.map PEl.dat = L.take (t + 1) by
                    rw [← HVN.out, HSN.out, List.map_append, HD.out]
                    show _ ++ [us.map CEl.d] = _ ++ [(pels.map CEl.d).map (chgD fun xs K => (turnL xs ord, K))]
                    rw [HUA.out, List.map_map]
                    rfl)
                  go_roundw
                  case rel => exact ⟨t + 1, _, _, _, by omega, by go_num, hO10, hU10, (fun p hp => (HT9.out p (by rw [HVN.out]; exact hp)).box hO9), HDN, hb10⟩
                  case measure => simp [intOf]; omega
            · obtain rfl : t = n := by omega
              have HDU := Lib.hid (show vs.map PEl.dat = L by rw [HD.out, List.take_of_length_le (by rw [← HLL.out, List.length_map, List.length_map, HNL.out]; exact Nat.le_refl _)])
              obtain ⟨A9, c9, hu9, P9, _⟩ := hU.pieces
              cases hu9
              have Z3 := Y4.step hbr
              have hbz := below_step hB hbr
              have HP := Lib.hid P9
              have HOK := Lib.hid hU.ok
              have HBZ := Lib.hid hbz
              have o0 := hO.c0
              have o1 := hO.c1
              have z0 := Z3.c0
              have z1 := Z3.c1
              have f0 := Z3.f 0
              have f1 := Z3.f 1
              have HZ := Lib.hid (show SetBox wr (w.heap.size + 1) 0 none 0 0 from Z3)
              have hz4 := Y4.lt
              have hws := hB.size
              have HT := Lib.hid hT
              have hg9 := Lib.hid (show 0 < vs.length → ∀ g o, Av = some ⟨g, o, none⟩ → w2.heap.size ≤ g from fun h0 g o hA => by
                obtain ⟨A', c', e', _, hg'⟩ := hU.pieces
                cases e'
                obtain ⟨g', o', h1, h2⟩ := hg' h0
                rw [hA] at h1
                cases h1
                exact h2)
              clear hU P9 hbz hO Z3 hT
              go_wp2
              have X5 := HZ.out.put D Av vs.length cv
              have hok5 : ∀ p ∈ vs, PieceAny 0 ((wr.setCell ⟨w.heap.size + 1, 0, none⟩ (.int .i64 D)).setCell ⟨w.heap.size + 1, 1, none⟩ (.slice Av vs.length cv)) p := fun p hp => (HT.out p hp).put (Nat.zero_le _) HZ.out _ _
              have hP5 := pieces_again HP.out (fun p hp => (hok5 p hp).conds) (by simp [World.setCell]) (fun h0 g o hA => put_other (by have := hg9.out h0 g o hA; omega) _ _)
              have hb5 := HBZ.out.trans (below_put (w := wr) (N := w.heap.size) (b := w.heap.size + 1) (by omega) (.int .i64 D) (.slice Av vs.length cv))
              generalize (wr.setCell ⟨w.heap.size + 1, 0, none⟩ (.int .i64 D)).setCell ⟨w.heap.size + 1, 1, none⟩ (.slice Av vs.length cv) = w6 at *
              have y0 := X5.c0
              have y1 := X5.c1
              refine bodyPost_ret (v := .tuple #[setV D Av vs.length cv, .int .i64 0]) (by simp [results, Try.results24, go_sem, y0, y1]) rfl ?_
              rw [HR2.out]
              exact shift_ok hP5 (fun p hp => (hok5 p hp).mono (Nat.zero_le _)) HDU.out hb5
    · have HR := Lib.hid (show turnE D ps ord = (2, []) by unfold turnE; rw [if_neg (by rw [hv]; simp), if_pos (by rw [HOL.out]; exact hd)])
      rw [HR.out]
      have q1 : ((m : Int) != D) = true := by simpa using hd
      have q2 : ((m : Int) == D) = false := by simpa using hd
      clear hv hE hL hd
      go_enter Try.func24, Try.ntmps24
      go_wp2_with (first | (go_at_call 17; refine (ref_svalid D A n c ps _ P1).mono ?_; rintro e w1 ⟨rfl, hb1⟩; rw [HV.out]; replace hB := below_step hB hb1; have P2 := P1.step hb1; have I2 := I1.step hb1; have Y1 := X1.step hb1; have Y4 := X4.step hb1; clear x0 x1; have c0 := Y1.c0; have c1 := Y1.c1; have z0 := Y4.c0; have z1 := Y4.c1; have f0 := Y4.f 0; have f1 := Y4.f 1))
      have X5 := Y4.put 0 none 0 0; have hb8 := below_put (w := w1) (N := w.heap.size) (b := w.heap.size + 1) (by omega) (.int .i64 0) (.slice none 0 0); generalize (w1.setCell ⟨w.heap.size + 1, 0, none⟩ (.int .i64 0)).setCell ⟨w.heap.size + 1, 1, none⟩ (.slice none 0 0) = w5 at *; have y0 := X5.c0; have y1 := X5.c1; try rw [Exit.noGoto_ret]
      refine bodyPost_ret (v := .tuple #[setV 0 none 0 0, .int .i64 2]) (by simp [results, Try.results24, go_sem, y0, y1]) rfl ?_
      exact shift_bad (by decide) (hB.trans hb8)
end Go.Proofs.Ytkgnlloioaobiaa
