/-
  Part 2 of the texts that the laws stand on.
-/
import Derived.Test.YtkgnlloioaobiaaGreatPa
set_option linter.unusedVariables false
set_option maxRecDepth 100000
set_option linter.unusedSimpArgs false
set_option linter.unusedSectionVars false
namespace Go.Proofs.YtkgnlloioaobiaaGreat
open Go.ChangeShapes Go.WideShapes Go.ChangeAt Go.RowKit
def Concat3 (w : World) (e : Ending) (w' : World) (out : List CEl) : Prop := ∃ A c, e = .returned (.slice A out.length c) ∧ CL3 w.heap.size w' (.slice A out.length c) out ∧ Below w.heap.size w w'
set_option maxHeartbeats 4000000 in
theorem any_concat {b off m cm : Nat} {ps : List PEl} (w : World) (hP : PiecesAt w (some ⟨b, off, none⟩) m ps) (hsane : ∀ p ∈ ps, p.A = none → p.c = 0) (htot : (ps.flatMap PEl.els).length ≤ 100000) (hm : m ≤ 1000) :
    Calls Tryz.prog 52 #[.slice (some ⟨b, off, none⟩) m cm] w fun e w' => Concat3 w e w' (ps.flatMap PEl.els) := by
  have HR := Lib.hid (And.intro (fun (p : PEl) (hp : p ∈ ps) (e : CEl) (he : e ∈ p.els) => (RowAny.of_ints ((hP.conds p hp).ints e he) (Nat.le_refl _) : RowAny w.heap.size w e.A e.n)) hsane)
  have HL := Lib.hid hP.len
  have P1 := hP
  clear hsane
  go_enter Tryz.func52, Tryz.ntmps52
  go_wp2
  go_loop [3, 11] (fun u v => ∃ i : Nat, i ≤ m ∧ v = .int .i64 i ∧ u = .int .i64 (((ps.take i).flatMap PEl.els).length : Nat)) (fun _ v => m - (intOf v).toNat)
  case atStart => exact ⟨0, Nat.zero_le _, rfl, rfl⟩
  case round =>
    obtain ⟨i, hi', rfl, rfl⟩ := hrel
    by_cases hlt : i < m
    · obtain ⟨b1, off1, p, hA, hblt, hpj, hmem, hcell, hCp⟩ := P1.at hlt; cases hA; have HPJ := Lib.hid hpj; obtain ⟨pA, pn, pc, pels⟩ := p; simp only at hcell hCp; have hpl := hCp.len; have HF := Lib.hid (flat_snoc PEl.els hpj); have hle := flat_le PEl.els ps (i + 1); rw [flat_snoc PEl.els hpj, List.length_append] at hle; simp only at hle; have hq1 : (i : Int) < m := (by omega); have hps := hCp.small
      have HS := Lib.hid (show ((ps.take (i + 1)).flatMap PEl.els).length = ((ps.take i).flatMap PEl.els).length + pn by rw [HF.out, List.length_append]; exact congrArg _ hpl)
      generalize ((ps.take i).flatMap PEl.els).length = t at *
      clear hCp hmem hpj
      go_wp2
      go_round
      case rel => exact ⟨i + 1, by omega, by go_num, by rw [HS.out]; go_num⟩
      case measure => simp [intOf]; omega
    · obtain rfl : i = m := by omega
      have hge : ¬ ((i : Int) < i) := by omega
      have hall : ps.take i = ps := List.take_of_length_le (by rw [HL.out]; exact Nat.le_refl _)
      rw [hall]
      have HA := Lib.hid hall
      clear hall
      have HT := Lib.hid (rfl : (ps.flatMap PEl.els).length = (ps.flatMap PEl.els).length)
      obtain ⟨t, ht⟩ : ∃ t, (ps.flatMap PEl.els).length = t := ⟨_, rfl⟩
      have HTT := Lib.hid ht
      rw [ht] at htot ⊢
      clear ht
      have key : ∀ W, Calls Tryz.prog 78 #[.slice none 0 0, .int .i64 t] W fun e w' => ∃ u, e = .returned u ∧ CL3 W.heap.size w' u [] ∧ Below W.heap.size W w' := fun W => by
        rcases Nat.eq_zero_or_pos t with rfl | h0
        · refine (cgrow_zero W).mono ?_
          rintro e w' ⟨rfl, rfl⟩
          exact ⟨_, rfl, CL3.nil _ _, Below.refl _ _⟩
        · refine (cgrow_some 0 t h0 htot W).mono ?_
          rintro e w' ⟨u, rfl, hL, hB⟩
          exact ⟨u, rfl, .of_cl hL, hB⟩
      have HK := Lib.hid key
      clear key
      go_wp2_with (go_at_call 78; refine (HK.out _).mono ?_; rintro e w1 ⟨u, rfl, hL, hB⟩)
      go_loopw [6, 27] (fun u v wr => ∃ j : Nat, j ≤ i ∧ v = .int .i64 j ∧ CL3 w.heap.size wr u ((ps.take j).flatMap PEl.els) ∧ Below w.heap.size w wr) (fun _ v _ => i - (intOf v).toNat)
      case atStart => exact ⟨0, Nat.zero_le _, rfl, hL, hB⟩
      case round =>
        clear hL hB
        obtain ⟨j, hj, rfl, hL, hB⟩ := hrel
        by_cases hlt : j < i
        · obtain ⟨b1, off1, p, hA, hblt, hpj, hmem, hcell, hCp⟩ := (P1.step hB).at hlt
          cases hA
          have hro := fun e he => (HR.out.1 p hmem e he).step hB
          have hsa := HR.out.2 p hmem
          have HPJ := Lib.hid hpj
          obtain ⟨pA, pn, pc, pels⟩ := p
          simp only at hcell hCp hro hsa
          have hpl := hCp.len
          have HF := Lib.hid (flat_snoc PEl.els hpj)
          have hle := flat_le PEl.els ps (j + 1)
          rw [flat_snoc PEl.els hpj, List.length_append, HTT.out] at hle
          simp only at hle
          have hq1 : (j : Int) < i := by omega
          have hps := hCp.small
          have hsum : ((ps.take j).flatMap PEl.els).length + pn ≤ 100000 := by omega
          have hN := hB.size
          clear hmem hpj hle
          go_wp2_with (at_builtin; refine wpList_append_any rfl _ _ 34 rfl rfl rfl hL rfl hCp hsa hro hsum hN ?_; intro u9 w9 L9 hb9; have hB9 := hB.trans hb9)
          go_roundw
          case rel => exact ⟨j + 1, by omega, by go_num, by rw [HF.out]; exact L9, hB9⟩
          case measure => simp [intOf]; omega
        · obtain rfl : j = i := by omega
          have hge : ¬ ((j : Int) < j) := by omega
          rw [HA.out] at hL
          obtain ⟨A9, c9, hu⟩ := hL.slice
          rw [HTT.out] at hu
          subst hu
          have HLL := Lib.hid hL
          clear hL
          go_wp2
          go_ret
          exact ⟨A9, c9, by rw [HTT.out]; rfl, by rw [HTT.out]; exact HLL.out, hB⟩
end Go.Proofs.YtkgnlloioaobiaaGreat
namespace Go.Proofs.YtkgnlloioaobiaaGreat
open Go.RowKit Go.Shelf
attribute [local go_sem] Oper.semAt_some
def meetL (l l' : List (List CD)) : List (List CD) := l.flatMap fun d => l'.map fun d' => d ++ d'
theorem meet_len (l l' : List (List CD)) : (meetL l l').length = l.length * l'.length := by
  induction l with
  | nil => simp [meetL]
  | cons d l ih =>
    have h : meetL (d :: l) l' = (l'.map fun d' => d ++ d') ++ meetL l l' := by simp [meetL]
    rw [h, List.length_append, ih, List.length_map, List.length_cons, Nat.succ_mul, Nat.add_comm]
theorem meet_at : ∀ (l l' : List (List CD)) (i j : Nat) (d d' : List CD), l[i]? = some d → l'[j]? = some d' → (meetL l l')[i * l'.length + j]? = some (d ++ d')
  | [], l', i, j, d, d', h, _ => by simp at h
  | x :: l, l', 0, j, d, d', h, h' => by
    have h0 : meetL (x :: l) l' = (l'.map fun d' => x ++ d') ++ meetL l l' := by simp [meetL]
    have hj := (List.getElem?_eq_some_iff.1 h').1
    simp at h
    subst h
    rw [h0, List.getElem?_append_left (by rw [List.length_map]; omega), Nat.zero_mul, Nat.zero_add, List.getElem?_map, h']
    rfl
  | x :: l, l', i + 1, j, d, d', h, h' => by
    have h0 : meetL (x :: l) l' = (l'.map fun d' => x ++ d') ++ meetL l l' := by simp [meetL]
    have ih := meet_at l l' i j d d' (by simpa using h) h'
    rw [h0, List.getElem?_append_right (by rw [List.length_map, Nat.succ_mul]; omega), List.length_map, show (i + 1) * l'.length + j - l'.length = i * l'.length + j by rw [Nat.succ_mul]; omega]
    exact ih
theorem take_snoc {α : Type} {l : List α} {k : Nat} {x : α} (h : l[k]? = some x) : l.take (k + 1) = l.take k ++ [x] := by
  rw [List.take_add_one, h]; rfl
theorem row_two {w : World} {g : Nat} {p q : PEl} (hg : w.heap[g]? = some (.cells #[p.v, q.v] 34 (0, 0))) (hp : CondsAt w p.A p.n p.els) (hq : CondsAt w q.A q.n q.els) : PiecesAt w (some ⟨g, 0, none⟩) 2 [p, q] := by
  refine ⟨rfl, by omega, fun _ => ⟨g, 0, rfl, (Array.getElem?_eq_some_iff.1 hg).1, fun j x hx => ?_⟩, fun x hx => ?_⟩
  · match j, hx with
    | 0, hx => cases hx; rw [cell_of_row w g _ _ _ (0, 0) hg]; rfl
    | 1, hx => cases hx; rw [cell_of_row w g _ _ _ (0, 0) hg]; rfl
    | j + 2, hx => simp at hx
  · rcases List.mem_cons.1 hx with rfl | hx
    · exact hp
    · rw [List.mem_singleton.1 hx]; exact hq
theorem grown_of_below {w w' : World} (hb : Below w.heap.size w w') : w.grownBy w' none := ⟨hb.os, hb.tape, hb.output, hb.size, fun k hk _ => hb.block k hk⟩
set_option maxRecDepth 100000 in
set_option maxHeartbeats 4000000 in
theorem meet_stops {nn : Nat} (Ba Bb : Nat) (D : Int) (A : Option Addr) (n c : Nat) (ps : List PEl) (D' : Int) (A' : Option Addr) (n' c' : Nat) (ps' : List PEl) (w w2 : World) (hw : Below w.heap.size w w2) (hBa : SetBox w Ba D A n c) (hBb : SetBox w Bb D' A' n' c') (P0 : PiecesAt w A n ps) (P1 : PiecesAt w A' n' ps')
    (hC : ∀ p ∈ ps, p.A = none → p.c = 0) (hC' : ∀ p ∈ ps', p.A = none → p.c = 0) (hv : ∀ p ∈ ps, (∀ e ∈ p.els, PreB nn e) ∧ p.els.length ≤ 96) (hv' : ∀ p ∈ ps', (∀ e ∈ p.els, PreB nn e) ∧ p.els.length ≤ 96) :
    SeqFresh Fence.wide 4 Tryz.prog 51 #[.pointer (some ⟨Ba, 0, none⟩), .pointer (some ⟨Bb, 0, none⟩)] fEnc (Fresh nn) (KpS w.heap.size) (fun ys => ys.map PEl.dat = meetL (ps.map PEl.dat) (ps'.map PEl.dat)) (fun done => ∃ k, done.map PEl.dat = (meetL (ps.map PEl.dat) (ps'.map PEl.dat)).take k) (meetL (ps.map PEl.dat) (ps'.map PEl.dat)).length w2 := by
  intro l J Jx W hW h1 _ hY h0
  have hro : Fence.wide.round = none := rfl
  have hb := hw.trans (hW.mono hw.size)
  have HJ := Lib.hid (fun done V V' (h : J done V) (hb : Below V.heap.size V V') => h1 done V V' none h (grown_of_below hb) (fun r e => by cases e))
  have HL := Lib.hid P0.len
  have HL' := Lib.hid P1.len
  have HC := Lib.hid hC
  have HC' := Lib.hid hC'
  have HV := Lib.hid hv
  have HV' := Lib.hid hv'
  have HLen := Lib.hid (show (meetL (ps.map PEl.dat) (ps'.map PEl.dat)).length = n * n' by rw [meet_len, List.length_map, List.length_map, P0.len, P1.len])
  have HAt := Lib.hid (fun (i j : Nat) (p q : PEl) (hp : ps[i]? = some p) (hq : ps'[j]? = some q) => (show (meetL (ps.map PEl.dat) (ps'.map PEl.dat))[i * n' + j]? = some (p.dat ++ q.dat) by
    have := meet_at (ps.map PEl.dat) (ps'.map PEl.dat) i j p.dat q.dat (by rw [List.getElem?_map, hp]; rfl) (by rw [List.getElem?_map, hq]; rfl)
    rwa [List.length_map, P1.len] at this))
  obtain ⟨L, hLd⟩ : ∃ L, meetL (ps.map PEl.dat) (ps'.map PEl.dat) = L := ⟨_, rfl⟩
  rw [hLd] at HLen HAt hY ⊢
  have B1 := hBa.step hb
  have B2 := hBb.step hb
  have a1 := B1.c1
  have hsm := P0.small
  have hsm' := P1.small
  have HY := Lib.hid hY
  clear hLd hC hC' hv hv' hY h1
  refine callsIn_of_wp Tryz.func51 rfl trivial ?_ hro
  simp only [Tryz.ntmps51, List.size_toArray, List.length_cons, List.length_nil, Nat.reduceAdd, Nat.reduceSub, Array.replicate_succ, Array.replicate_zero, List.push_toArray, List.append_toArray, List.nil_append, List.cons_append]
  gi_wp2
  clear a1 B1 B2
  gi_loopw [11] (fun v wr => ∃ (i : Nat) (done : List PEl), i ≤ n ∧ v = .int .i64 i ∧ J done wr ∧ Hid (done.map PEl.dat = L.take (i * n')) ∧ Below w.heap.size w wr) (fun v _ => n - (intOf v).toNat)
  case atStart => exact ⟨0, [], Nat.zero_le _, rfl, h0, Lib.hid (by simp), hb⟩
  case round =>
    clear h0 hb
    obtain ⟨i, done, hi, rfl, hJ, HD, hbr⟩ := hrel
    by_cases hlt : i < n
    · obtain ⟨b, off, p, rfl, hblt, hpj, hmem, hcell, hCp⟩ := (P0.step hbr).at hlt
      have HPJ := Lib.hid hpj
      have HPM := Lib.hid hmem
      have b1 := (hBb.step hbr).c1
      obtain ⟨pA, pn, pc, pels⟩ := p
      simp only at hcell hCp
      have hq1 : (i : Int) < n := by omega
      clear hpj hmem hCp
      gi_wp2
      generalize hwr : wr = wo at *
      clear hwr hcell b1
      gi_loopw [18] (fun v wt => ∃ (j : Nat) (done : List PEl), j ≤ n' ∧ v = .int .i64 j ∧ J done wt ∧ Hid (done.map PEl.dat = L.take (i * n' + j)) ∧ Below w.heap.size w wt) (fun v _ => n' - (intOf v).toNat)
      case atStart => exact ⟨0, done, Nat.zero_le _, rfl, hJ, HD, hbr⟩
      case round =>
        clear hJ hbr HD hblt
        obtain ⟨j, dn, hj, rfl, hJ, HD, hbr⟩ := hrel
        by_cases hlt2 : j < n'
        · obtain ⟨b2, off2, q, hA2, hblt2, hqj, hqm, hcell2, hCq⟩ := (P1.step hbr).at hlt2
          have hA2 : A' = some ⟨b2, off2, none⟩ := hA2
          subst hA2
          have HQJ := Lib.hid hqj
          have HQM := Lib.hid hqm
          have hCp := (P0.conds _ HPM.out).step hbr
          have HSN := Lib.hid (take_snoc (HAt.out i j _ _ HPJ.out HQJ.out))
          obtain ⟨qA, qn, qc, qels⟩ := q
          simp only at hcell2 hCq hCp
          have hq2 : (j : Int) < n' := by omega
          have b5 := below_alloc wr (.cells #[.slice pA pn pc, .slice qA qn qc] 34)
          have hR2 := row_two (w := wr.alloc (.cells #[.slice pA pn pc, .slice qA qn qc] 34)) (g := wr.heap.size) (p := ⟨pA, pn, pc, pels⟩) (q := ⟨qA, qn, qc, qels⟩) (heap_alloc_new wr _) (hCp.step b5) (hCq.step b5)
          have e1 := (HV.out _ HPM.out).2
          have e2 := (HV'.out _ HQM.out).2
          have HK := Lib.hid (show ∀ x ∈ [(⟨pA, pn, pc, pels⟩ : PEl), ⟨qA, qn, qc, qels⟩], x.A = none → x.c = 0 from fun x hx => by
            rcases List.mem_cons.1 hx with rfl | hx
            · exact HC.out _ HPM.out
            · rw [List.mem_singleton.1 hx]; exact HC'.out _ HQM.out)
          have hfm : ([(⟨pA, pn, pc, pels⟩ : PEl), ⟨qA, qn, qc, qels⟩]).flatMap PEl.els = pels ++ qels := by simp
          have HT := Lib.hid (show (([(⟨pA, pn, pc, pels⟩ : PEl), ⟨qA, qn, qc, qels⟩]).flatMap PEl.els).length ≤ 100000 by rw [hfm, List.length_append]; simp only at e1 e2; omega)
          have HCT := Lib.hid ((any_concat (cm := 2) _ hR2 HK.out HT.out (by omega)).mono (R' := fun e w3 => ∃ A3 m3 c3 out, e = .returned (.slice A3 m3 c3) ∧ CondsAt w3 A3 m3 out ∧ out = pels ++ qels ∧ m3 ≤ 1000 ∧ Below wr.heap.size wr w3) (by
            rintro e w3 ⟨A3, c3, rfl, L3, hb3⟩
            rw [hfm] at L3
            rw [hfm]
            refine ⟨A3, _, c3, _, rfl, L3.conds.2, rfl, ?_, b5.trans (hb3.mono b5.size)⟩
            rw [List.length_append]; simp only at e1 e2; omega))
          have HPR := Lib.hid (show ∀ e ∈ pels ++ qels, PreB nn e from fun e he => by
            rcases List.mem_append.1 he with he | he
            · exact (HV.out _ HPM.out).1 e he
            · exact (HV'.out _ HQM.out).1 e he)
          have HLT := Lib.hid (show dn.length < L.length by
            have h9 := congrArg List.length HD.out
            rw [List.length_map, List.length_take] at h9
            have h8 := (List.getElem?_eq_some_iff.1 (HAt.out i j _ _ HPJ.out HQJ.out)).1
            omega)
          clear hqj hqm hR2 e1 e2 hfm hCp hCq b5
          gi_wp2_with (refine ⟨trivial, ?_⟩; gi_at_call 52; refine (callsIn_wide.2 HCT.out).mono ?_; rintro e w3 ⟨A3, m3, c3, out, rfl, hC3, ho3, hm3, hb3⟩; obtain ⟨fn, tmps, assign, body, hy, hR⟩ := HY.out dn ⟨A3, m3, c3, out⟩ w3 (HJ.out _ _ _ hJ hb3) ⟨hC3, by rw [ho3]; exact HPR.out, hm3⟩ HLT.out; dsimp only [fEnc] at hy)
          have hbn := hbr.trans (hb3.mono hbr.size)
          refine hR.mono ?_
          rintro e W3 (⟨rfl, hJ3, hk3⟩ | ⟨rfl, hJx3⟩)
          · have HDN := Lib.hid (show (dn ++ [(⟨A3, m3, c3, out⟩ : PEl)]).map PEl.dat = L.take (i * n' + (j + 1)) by
              rw [← Nat.add_assoc, HSN.out, List.map_append, HD.out]
              show _ ++ [out.map CEl.d] = _ ++ [pels.map CEl.d ++ qels.map CEl.d]
              rw [ho3, List.map_append])
            gi_wp2
            go_roundw
            case rel => exact ⟨j + 1, _, by omega, by go_num, hJ3, HDN, hbn.trans hk3.1⟩
            case measure => simp [intOf]; omega
          · have HDN := Lib.hid (show (dn ++ [(⟨A3, m3, c3, out⟩ : PEl)]).map PEl.dat = L.take (i * n' + j + 1) by
              rw [HSN.out, List.map_append, HD.out]
              show _ ++ [out.map CEl.d] = _ ++ [pels.map CEl.d ++ qels.map CEl.d]
              rw [ho3, List.map_append])
            gi_wp2
            refine bodyPost_ret (results_none rfl _ _ _) rfl ?_
            exact ⟨⟨_, rfl⟩, .inr ⟨_, ⟨_, HDN.out⟩, hJx3⟩⟩
        · obtain rfl : j = n' := by omega
          gi_wp2
          go_roundw
          case rel => exact ⟨i + 1, dn, by omega, by go_num, hJ, by rw [show (i + 1) * j = i * j + j from Nat.succ_mul i j]; exact HD, hbr⟩
          case measure => simp [intOf]; omega
    · obtain rfl : i = n := by omega
      gi_wp2
      go_end0
      refine ⟨⟨_, rfl⟩, .inl ⟨done, ?_, hJ⟩⟩
      rw [HD.out, List.take_of_length_le (by rw [HLen.out]; exact Nat.le_refl _)]
end Go.Proofs.YtkgnlloioaobiaaGreat
namespace Go.Proofs.YtkgnlloioaobiaaGreat
open Go.RowKit Go.Shelf
set_option maxHeartbeats 4000000 in
theorem set_meet (D : Int) (A : Option Addr) (n c : Nat) (ps : List PEl) (A' : Option Addr) (n' c' : Nat) (ps' : List PEl) (w : World) (h : PiecesAt w A n ps) (h' : PiecesAt w A' n' ps') (hv1 : validS D ps = true) (hv2 : validS D ps' = true) (hC : ∀ p ∈ ps, p.A = none → p.c = 0) (hC' : ∀ p ∈ ps', p.A = none → p.c = 0) :
    Calls Tryz.prog 16 #[setV D A n c, setV D A' n' c'] w fun e w' => GatherRet D.toNat w e w' D (gatherD D.toNat (meetL (ps.map PEl.dat) (ps'.map PEl.dat))) := by
  have HE := Lib.hid (show bothE D ps D ps' = 0 by unfold bothE; rw [if_pos ⟨hv1, hv2⟩, if_pos rfl])
  have hvp := valid_parts hv1
  have hvq := valid_parts hv2
  have HPR := Lib.hid (And.intro hvp.2 hvq.2)
  have HC := Lib.hid (And.intro hC hC')
  have HN := Lib.hid (show D.toNat ≤ 100 by have := hvp.1; omega)
  obtain ⟨nn, hnn⟩ : ∃ nn, D.toNat = nn := ⟨_, rfl⟩
  rw [hnn] at HPR HN ⊢
  obtain ⟨gd, hgd⟩ : ∃ gd, gatherD nn (meetL (ps.map PEl.dat) (ps'.map PEl.dat)) = gd := ⟨_, rfl⟩
  rw [hgd]
  have HG := Lib.hid hgd
  obtain ⟨D', hD'⟩ : ∃ D', (if gd.1 ≠ 0 then (0 : Int) else D) = D' := ⟨_, rfl⟩
  have HDD := Lib.hid hD'
  have hB := below_step (below_step (below_alloc w (.cells #[.int .i64 D, .slice A n c] 24)) (below_alloc _ (.cells #[.int .i64 D, .slice A' n' c'] 24))) (below_alloc _ (.cells #[.int .i64 0, .slice none 0 0] 24))
  have X1 := ((SetBox.new w D A n c).alloc (.cells #[.int .i64 D, .slice A' n' c'] 24)).alloc (.cells #[.int .i64 0, .slice none 0 0] 24)
  have X2 := (SetBox.new (w.alloc (.cells #[.int .i64 D, .slice A n c] 24)) D A' n' c').alloc (.cells #[.int .i64 0, .slice none 0 0] 24)
  have X3 := SetBox.new ((w.alloc (.cells #[.int .i64 D, .slice A n c] 24)).alloc (.cells #[.int .i64 D, .slice A' n' c'] 24)) 0 none 0 0
  have P1 := h.step hB
  have P2 := h'.step hB
  have c0 := X1.c0
  have c1 := X1.c1
  have d0 := X2.c0
  have d1 := X2.c1
  simp only [World.size_alloc] at X2 X3 d0 d1
  clear h h' hv1 hv2 hvp hvq hgd hD' hnn hC hC'
  go_enter Tryz.func16, Tryz.ntmps16
  go_wp2_with (first | (go_at_call 48; refine (set_both D A n c ps D A' n' c' ps' _ P1 P2).mono ?_; rintro e w1 ⟨rfl, hb⟩; rw [HE.out]; replace hB := below_step hB hb; replace P1 := P1.step hb; replace P2 := P2.step hb; replace X1 := X1.step hb; replace X2 := X2.step hb; replace X3 := X3.step hb; clear hb c0 c1 d0 d1; have c0 := X1.c0; have c1 := X1.c1; have d0 := X2.c0; have d1 := X2.c1; have HS1 := Lib.hid hB.size; have HL1 := Lib.hid X3.lt) | (go_at_call 44; refine (gathered_fresh (n := nn) HN.out D (meetL (ps.map PEl.dat) (ps'.map PEl.dat)) w1 _ _ (enters_of Tryz.func51 (by kernel_rfl) rfl) (fun w2 hw => meet_stops _ _ D A n c ps D A' n' c' ps' w1 w2 hw X1 X2 P1 P2 HC.out.1 HC.out.2 HPR.out.1 HPR.out.2)).mono ?_; rw [HG.out]; rintro e w3 ⟨A3, k3, c3, qs, rfl, hP3, hok3, hd3, hA3, hb3⟩; rw [HDD.out]; have hB3 := below_step hB hb3; have Z3 := X3.step hb3; have r0 := Z3.c0; have r1 := Z3.c1; have f0 := Z3.f 0; have f1 := Z3.f 1))
  have X4 := Z3.put D' A3 k3 c3
  have hku := Z3.keepU (.int .i64 D') (.slice A3 k3 c3)
  have hok4 := fun p hp => (hok3 p hp).keep hku
  have hP4 := pieces_move hP3 hok4 hku.size (fun h0 g o hA => by
    obtain ⟨g', o', h1, h2⟩ := hA3 h0
    rw [hA] at h1
    cases h1
    exact put_other (by have := HL1.out; omega) _ _)
  have hb4 := hB3.trans (below_put (w := w3) (N := w.heap.size) (b := w.heap.size + 1 + 1) (by omega) (.int .i64 D') (.slice A3 k3 c3))
  generalize (w3.setCell ⟨w.heap.size + 1 + 1, 0, none⟩ (.int .i64 D')).setCell ⟨w.heap.size + 1 + 1, 1, none⟩ (.slice A3 k3 c3) = w4 at *
  have v0 := X4.c0
  have v1 := X4.c1
  refine bodyPost_ret (v := .tuple #[setV D' A3 k3 c3, .int .i64 gd.1]) (by simp [results, Tryz.results16, go_sem, v0, v1]) rfl ?_
  exact ⟨A3, k3, c3, qs, by rw [HDD.out], hP4, hok4, hd3, (fun h => let ⟨g, o, h1, h2⟩ := hA3 h; ⟨g, o, h1, by have := HS1.out; omega⟩), hb4⟩
end Go.Proofs.YtkgnlloioaobiaaGreat
namespace Go.Proofs.YtkgnlloioaobiaaGreat
open Go.RowKit
def PreN (n : Nat) (ds : List CD) : Prop := (∀ d ∈ ds, KindOk d.q d.M ∧ d.xs.length = n) ∧ ∀ z ∈ normOut n ds, NormD n z
theorem pre_void {n : Nat} {x : List Int} {ds : List CD} (h : PreN n ds) (hv : (pieceD n ds).2.1 = true) : ¬ HoldsL n x ds := by
  obtain ⟨hk, hN⟩ := h
  unfold pieceD at hv
  split at hv
  · rename_i h1; exact norm_void hk h1
  · rename_i h1
    have h1 : normVoid n ds = false := by simpa using h1
    rw [norm_points hk h1]
    split at hv
    · rename_i h2
      have hm := fun d => (sortL_perm leD (normOut n ds)).mem_iff (a := d)
      rw [← holds_mem (l := sortD (normOut n ds)) (fun d => hm d)]
      exact settle_void (sorted_sort fun d hd => (hN d hd).len) (fun d hd => hN d ((hm d).1 hd)) h2
    · split at hv <;> cases hv
theorem pre_points {n : Nat} {x : List Int} {ds : List CD} (h : PreN n ds) (he : (pieceD n ds).2.2 = 0) (hv : (pieceD n ds).2.1 = false) : HoldsL n x ds ↔ HoldsL n x (pieceD n ds).1 := by
  obtain ⟨hk, hN⟩ := h
  unfold pieceD at he hv ⊢
  split at hv
  · cases hv
  · rename_i h1
    rw [if_neg h1] at he ⊢
    have h1 : normVoid n ds = false := by simpa using h1
    rw [norm_points hk h1]
    have hm := fun d => (sortL_perm leD (normOut n ds)).mem_iff (a := d)
    cases hst : settleD (sortD (normOut n ds)) with
    | none => rw [hst] at hv; cases hv
    | some r =>
      rw [hst] at he
      simp only at he ⊢
      split at he
      · cases he
      · rename_i h3
        rw [if_neg h3, ← holds_mem (l := sortD (normOut n ds)) (fun d => hm d)]
        exact settle_points (sorted_sort fun d hd => (hN d hd).len) (fun d hd => hN d ((hm d).1 hd)) hst
theorem pre_add {n : Nat} {x : List Int} {us us' : List (List CD)} {ds : List CD} (hu : GoodU n us) (hd : PreN n ds) (h : addD n us ds = (0, us')) : SetH n x us' ↔ SetH n x us ∨ HoldsL n x ds := by
  unfold addD at h
  split at h
  · rename_i hb
    simp only [Prod.mk.injEq] at h
    obtain ⟨h0, rfl⟩ := h
    have hv : (pieceD n ds).2.1 = true := hb.resolve_left fun h => h h0
    exact ⟨.inl, fun h => h.elim id fun h => absurd h (pre_void hd hv)⟩
  · rename_i hb
    have h0 : (pieceD n ds).2.2 = 0 := by
      by_cases h9 : (pieceD n ds).2.2 = 0
      · exact h9
      · exact absurd (.inl h9) hb
    have hv : (pieceD n ds).2.1 = false := by
      cases h9 : (pieceD n ds).2.1
      · rfl
      · exact absurd (.inr h9) hb
    rw [keep_points hu (piece_valid hd.1).1 h, ← pre_points hd h0 hv]
theorem pre_gather {n : Nat} {x : List Int} {l us' : List (List CD)} (hl : ∀ ds ∈ l, PreN n ds) (h : gatherD n l = (0, us')) : GoodU n us' ∧ (SetH n x us' ↔ SetH n x l) := by
  rw [gather_fold] at h
  obtain ⟨g, e⟩ := fold_points (n := n) (x := x) (f := addD n) (Q := fun ds => HoldsL n x ds) l (fun ds hds us us' hu h => ⟨by
    have := add_good hu (hl ds hds).1
    rw [h] at this
    exact this, pre_add hu (hl ds hds) h⟩) [] us' good_nil h
  refine ⟨g, e.trans ⟨?_, fun h => .inr h⟩⟩
  rintro (⟨u, hu, _⟩ | h)
  · cases hu
  · exact h
theorem setH_cat {n : Nat} {x : List Int} {l l' : List (List CD)} : SetH n x (l ++ l') ↔ SetH n x l ∨ SetH n x l' := by
  unfold SetH
  constructor
  · rintro ⟨u, hu, h⟩
    rcases List.mem_append.1 hu with hu | hu
    · exact .inl ⟨u, hu, h⟩
    · exact .inr ⟨u, hu, h⟩
  · rintro (⟨u, hu, h⟩ | ⟨u, hu, h⟩)
    · exact ⟨u, List.mem_append_left _ hu, h⟩
    · exact ⟨u, List.mem_append_right _ hu, h⟩
theorem setH_meet {n : Nat} {x : List Int} {l l' : List (List CD)} : SetH n x (meetL l l') ↔ SetH n x l ∧ SetH n x l' := by
  unfold SetH meetL
  constructor
  · rintro ⟨u, hu, h⟩
    obtain ⟨d, hd, hu⟩ := List.mem_flatMap.1 hu
    obtain ⟨d', hd', rfl⟩ := List.mem_map.1 hu
    obtain ⟨h1, h2⟩ := holds_app.1 h
    exact ⟨⟨d, hd, h1⟩, ⟨d', hd', h2⟩⟩
  · rintro ⟨⟨d, hd, h1⟩, ⟨d', hd', h2⟩⟩
    exact ⟨d ++ d', List.mem_flatMap.2 ⟨d, hd, List.mem_map.2 ⟨d', hd', rfl⟩⟩, holds_app.2 ⟨h1, h2⟩⟩
theorem meet_mem {l l' : List (List CD)} {u : List CD} (hu : u ∈ meetL l l') : ∃ d ∈ l, ∃ d' ∈ l', u = d ++ d' := by
  obtain ⟨d, hd, hu⟩ := List.mem_flatMap.1 hu
  obtain ⟨d', hd', rfl⟩ := List.mem_map.1 hu
  exact ⟨d, hd, d', hd', rfl⟩
section
variable {nn : Nat} {xs : List Int} {ps qs us : List PEl}
theorem union_has (hl : xs.length = nn) (hp : pointB xs = true) (hlp : ∀ p ∈ ps, ∀ e ∈ p.els, e.xs.length = e.n) (hlq : ∀ p ∈ qs, ∀ e ∈ p.els, e.xs.length = e.n) (hlu : ∀ p ∈ us, ∀ e ∈ p.els, e.xs.length = e.n) (hvp : validS nn ps = true) (hvq : validS nn qs = true) (h : gatherD nn ((ps ++ qs).map PEl.dat) = (0, us.map PEl.dat)) :
    GoodU nn (us.map PEl.dat) ∧ hasS xs us = (hasS xs ps || hasS xs qs) := by
  rw [List.map_append] at h
  obtain ⟨g, e⟩ := gather_points (x := xs) (fun ds hds => (List.mem_append.1 hds).elim (valid_data hlp hvp ds) (valid_data hlq hvq ds)) h
  refine ⟨g, ?_⟩
  have h1 := hasS_set (conds_good hlu g) hl hp hlu
  have h2 := hasS_set (fun p hp => ((valid_elim hvp).2 p hp).2) hl hp hlp
  have h3 := hasS_set (fun p hp => ((valid_elim hvq).2 p hp).2) hl hp hlq
  rw [Bool.eq_iff_iff, h1, e, setH_cat, ← h2, ← h3, Bool.or_eq_true]
theorem meet_has (hl : xs.length = nn) (hp : pointB xs = true) (hlp : ∀ p ∈ ps, ∀ e ∈ p.els, e.xs.length = e.n) (hlq : ∀ p ∈ qs, ∀ e ∈ p.els, e.xs.length = e.n) (hlu : ∀ p ∈ us, ∀ e ∈ p.els, e.xs.length = e.n) (hvp : validS nn ps = true) (hvq : validS nn qs = true) (h : gatherD nn (meetL (ps.map PEl.dat) (qs.map PEl.dat)) = (0, us.map PEl.dat)) :
    GoodU nn (us.map PEl.dat) ∧ hasS xs us = (hasS xs ps && hasS xs qs) := by
  obtain ⟨g, e⟩ := gather_points (x := xs) (fun ds hds => by
    obtain ⟨d, hd, d', hd', rfl⟩ := meet_mem hds
    exact valid_app (valid_data hlp hvp d hd) (valid_data hlq hvq d' hd')) h
  refine ⟨g, ?_⟩
  have h1 := hasS_set (conds_good hlu g) hl hp hlu
  have h2 := hasS_set (fun p hp => ((valid_elim hvp).2 p hp).2) hl hp hlp
  have h3 := hasS_set (fun p hp => ((valid_elim hvq).2 p hp).2) hl hp hlq
  rw [Bool.eq_iff_iff, h1, e, setH_meet, ← h2, ← h3, Bool.and_eq_true]
theorem normal_has (hl : xs.length = nn) (hp : pointB xs = true) (hlp : ∀ p ∈ ps, ∀ e ∈ p.els, e.xs.length = e.n) (hlu : ∀ p ∈ us, ∀ e ∈ p.els, e.xs.length = e.n) (hvp : validS nn ps = true) (h : gatherD nn (ps.map PEl.dat) = (0, us.map PEl.dat)) :
    GoodU nn (us.map PEl.dat) ∧ hasS xs us = hasS xs ps := by
  obtain ⟨g, e⟩ := gather_points (x := xs) (valid_data hlp hvp) h
  refine ⟨g, ?_⟩
  have h1 := hasS_set (conds_good hlu g) hl hp hlu
  have h2 := hasS_set (fun p hp => ((valid_elim hvp).2 p hp).2) hl hp hlp
  rw [Bool.eq_iff_iff, h1, e, ← h2]
theorem dot_erase {cs ys : List Int} {i : Nat} : ∀ m, (m ≤ i → dotSum (cs.eraseIdx i) (ys.eraseIdx i) m = dotSum cs ys m) ∧ (i ≤ m → dotSum (cs.eraseIdx i) (ys.eraseIdx i) m + cs[i]?.getD 0 * ys[i]?.getD 0 = dotSum cs ys (m + 1))
  | 0 => ⟨fun _ => rfl, fun h => by
    obtain rfl : i = 0 := by omega
    simp [dotSum]⟩
  | m + 1 => by
    obtain ⟨h1, h2⟩ := dot_erase (cs := cs) (ys := ys) (i := i) m
    refine ⟨fun h => ?_, fun h => ?_⟩
    · rw [dotSum, dotSum, h1 (by omega), List.getElem?_eraseIdx, List.getElem?_eraseIdx, if_pos (by omega), if_pos (by omega)]
    · rcases Nat.lt_or_ge m i with hlt | hge
      · obtain rfl : i = m + 1 := by omega
        rw [dotSum, dotSum, dotSum, h1 (by omega), List.getElem?_eraseIdx, List.getElem?_eraseIdx, if_pos (by omega), if_pos (by omega)]
      · have h3 := h2 hge
        rw [dotSum, dotSum, ← h3, List.getElem?_eraseIdx, List.getElem?_eraseIdx, if_neg (by omega), if_neg (by omega)]
        omega
theorem fix_hold {d : CD} {i : Nat} {v : Int} {x : List Int} (hx : x.length = nn) (hi : i < nn) : holdD (nn - 1) (x.eraseIdx i) (chgD (fixL i v) d) = holdD nn (x.set i v) d := by
  have h1 := (dot_erase (cs := d.xs) (ys := x.set i v) (i := i) (nn - 1)).2 (by omega)
  rw [show nn - 1 + 1 = nn by omega] at h1
  have h2 : (x.set i v).eraseIdx i = x.eraseIdx i := by
    apply List.ext_getElem?
    intro j
    rw [List.getElem?_eraseIdx, List.getElem?_eraseIdx]
    split
    · exact List.getElem?_set_ne (by omega)
    · exact List.getElem?_set_ne (by omega)
  have h3 : (x.set i v)[i]?.getD 0 = v := by rw [List.getElem?_set_self (by omega)]; rfl
  rw [h2, h3] at h1
  unfold holdD
  rw [← h1]
  show holdB d.q d.M (d.K + d.xs[i]?.getD 0 * v + dotSum (d.xs.eraseIdx i) (x.eraseIdx i) (nn - 1)) = _
  congr 1
  omega
theorem fix_preN {ds : List CD} {i : Nat} {v : Int} (h : ∀ d ∈ ds, ValidD nn d) (hc : coordB v = true) (hi : i < nn) : PreN (nn - 1) (ds.map (chgD (fixL i v))) := by
  have key : ∀ d ∈ ds, KindOk d.q d.M ∧ (d.xs.eraseIdx i).length = nn - 1 ∧ (-4611686018427387904 ≤ d.K + d.xs[i]?.getD 0 * v ∧ d.K + d.xs[i]?.getD 0 * v ≤ 4611686018427387904) ∧ (-2305843009213693952 ≤ d.K + d.xs[i]?.getD 0 * v ∧ d.K + d.xs[i]?.getD 0 * v ≤ 2305843009213693952) ∧ ∀ y ∈ d.xs.eraseIdx i, -2305843009213693952 ≤ y ∧ y ≤ 2305843009213693952 := fun d hd => by
    obtain ⟨hv, hl⟩ := h d hd
    obtain ⟨s1, s2⟩ := fix_small (i := i) (valid_lin hv) hc
    obtain ⟨_, _, hx⟩ := validB_true.1 (valid_lin hv)
    refine ⟨validC_ok hv, by rw [List.length_eraseIdx, if_pos (by omega), hl], by omega, by omega, fun y hy => ?_⟩
    have := fitsB_true.1 (hx y (List.mem_of_mem_eraseIdx hy))
    omega
  refine ⟨fun d hd => ?_, fun z hz => ?_⟩
  · obtain ⟨d0, hd0, rfl⟩ := List.mem_map.1 hd
    exact ⟨(key d0 hd0).1, (key d0 hd0).2.1⟩
  · obtain ⟨d, hd, hz⟩ := List.mem_flatMap.1 hz
    obtain ⟨d0, hd0, rfl⟩ := List.mem_map.1 hd
    obtain ⟨k1, k2, k3, k4, k5⟩ := key d0 hd0
    exact norm_one (d := chgD (fixL i v) d0) k2 k1 k4 k5 z hz
theorem fix_has {i : Nat} {v : Int} (hn : nn ≤ 12) (hl : xs.length = nn) (hp : pointB xs = true) (hi : i < nn) (hc : coordB v = true) (hlp : ∀ p ∈ ps, ∀ e ∈ p.els, e.xs.length = e.n) (hlu : ∀ p ∈ us, ∀ e ∈ p.els, e.xs.length = e.n) (hvp : validS nn ps = true) (h : gatherD (nn - 1) ((ps.map PEl.dat).map fun d => d.map (chgD (fixL i v))) = (0, us.map PEl.dat)) :
    GoodU (nn - 1) (us.map PEl.dat) ∧ pointB (xs.eraseIdx i) = true ∧ pointB (xs.set i v) = true ∧ hasS (xs.eraseIdx i) us = hasS (xs.set i v) ps := by
  have hvd := valid_data hlp hvp
  obtain ⟨g, e⟩ := pre_gather (x := xs.eraseIdx i) (fun ds hds => by
    obtain ⟨d, hd, rfl⟩ := List.mem_map.1 hds
    exact fix_preN (hvd d hd) hc hi) h
  have hp1 : pointB (xs.eraseIdx i) = true := List.all_eq_true.2 fun y hy => List.all_eq_true.1 hp y (List.mem_of_mem_eraseIdx hy)
  have hp2 : pointB (xs.set i v) = true := List.all_eq_true.2 fun y hy => by
    rcases List.mem_or_eq_of_mem_set hy with hy | rfl
    · exact List.all_eq_true.1 hp y hy
    · exact hc
  refine ⟨g, hp1, hp2, ?_⟩
  have h1 := hasS_set (conds_good hlu g) (by rw [List.length_eraseIdx, if_pos (by omega), hl]) hp1 hlu
  have h2 := hasS_set (fun p hp => ((valid_elim hvp).2 p hp).2) (by rw [List.length_set]; exact hl) hp2 hlp
  rw [Bool.eq_iff_iff, h1, e, h2]
  constructor
  · rintro ⟨u, hu, hh⟩
    obtain ⟨d, hd, rfl⟩ := List.mem_map.1 hu
    exact ⟨d, hd, fun c hcm => by rw [← fix_hold hl hi]; exact hh _ (List.mem_map.2 ⟨c, hcm, rfl⟩)⟩
  · rintro ⟨d, hd, hh⟩
    refine ⟨_, List.mem_map.2 ⟨d, hd, rfl⟩, fun c hcm => ?_⟩
    obtain ⟨c0, hc0, rfl⟩ := List.mem_map.1 hcm
    rw [fix_hold hl hi]
    exact hh c0 hc0
end
end Go.Proofs.YtkgnlloioaobiaaGreat
namespace Go.Proofs.YtkgnlloioaobiaaGreat
open Go.RowKit Go.Shelf
attribute [local go_sem] Oper.semAt_some
def TwoSets (w : World) (g : Nat) (D : Int) (A : Option Addr) (n c : Nat) (D' : Int) (A' : Option Addr) (n' c' : Nat) : Prop := w.heap[g]? = some (.cells #[.int .i64 D, .slice A n c, .int .i64 D', .slice A' n' c'] 24 (0, 0))
theorem TwoSets.cell {w : World} {g : Nat} {D : Int} {A : Option Addr} {n c : Nat} {D' : Int} {A' : Option Addr} {n' c' : Nat} (h : TwoSets w g D A n c D' A' n' c') : w.cell? ⟨g, 0, none⟩ = some (.int .i64 D) ∧ w.cell? ⟨g, 1, none⟩ = some (.slice A n c) ∧ w.cell? ⟨g, 2, none⟩ = some (.int .i64 D') ∧ w.cell? ⟨g, 3, none⟩ = some (.slice A' n' c') := by
  have key : ∀ (k : Nat) (v : Value), #[Value.int .i64 D, .slice A n c, .int .i64 D', .slice A' n' c'][k]? = some v → w.cell? ⟨g, k, none⟩ = some v := fun k v hv => by rw [cell_of_row _ _ k _ _ (0, 0) h]; exact hv
  exact ⟨key 0 _ rfl, key 1 _ rfl, key 2 _ rfl, key 3 _ rfl⟩
set_option maxRecDepth 100000 in
set_option maxHeartbeats 4000000 in
theorem union1_in (F : Fence) (N : Nat) (hf : F.fn 49) (hro : F.round = none) (hN : 1 ≤ N) (l Ba Bb n₀ : Nat) (D : Int) (A : Option Addr) (n c : Nat) (ps : List PEl) (D' : Int) (A' : Option Addr) (n' c' : Nat) (ps' : List PEl) (J Jx : List (PAt (ps ++ ps')) → World → Prop)
    (hY : ∀ pre x W, J pre W → pre.length < n + n' → YieldAt F (N - 1) Tryz.prog l (pEnc (ps ++ ps') x) W fun e W' =>
      (e = .returned (.bool true) ∧ J (pre ++ [x]) W' ∧ KpS n₀ W W') ∨ (e = .returned (.bool false) ∧ Jx (pre ++ [x]) W'))
    (hJa : ∀ pre W o, J pre W → J pre (W.alloc o)) (W : World) (hBa : SetBox W Ba D A n c) (hBb : SetBox W Bb D' A' n' c') (hW0 : n₀ ≤ W.heap.size) (hl : ps.length = n) (hl' : ps'.length = n') (hsm : n ≤ 17592186044416) (hsm' : n' ≤ 17592186044416)
    (hI : 0 < n → ∃ b off, A = some ⟨b, off, none⟩ ∧ b < n₀ ∧ ∀ j p, ps[j]? = some p → W.cell? ⟨b, off + j, none⟩ = some (.slice p.A p.n p.c))
    (hI' : 0 < n' → ∃ b off, A' = some ⟨b, off, none⟩ ∧ b < n₀ ∧ ∀ j p, ps'[j]? = some p → W.cell? ⟨b, off + j, none⟩ = some (.slice p.A p.n p.c)) (h0 : J [] W) :
    CallsIn F N Tryz.prog 49 #[.func (.yield l) #[] #[], .pointer (some ⟨Ba, 0, none⟩), .pointer (some ⟨Bb, 0, none⟩)] W fun e W' => (∃ v, e = .returned v) ∧
      ((∃ ys, ys = (ps ++ ps').attach ∧ J ys W') ∨ (∃ pre, (∃ k, k ≤ n + n' ∧ pre = (ps ++ ps').attach.take k) ∧ Jx pre W')) := by
  have HL := Lib.hid hl
  have HL' := Lib.hid hl'
  have HJA := Lib.hid hJa
  have a0 := hBa.c0
  have a1 := hBa.c1
  have b0 := hBb.c0
  have b1 := hBb.c1
  refine callsIn_of_wp Tryz.func49 rfl hf ?_ hro
  simp only [Tryz.ntmps49, List.size_toArray, List.length_cons, List.length_nil, Nat.reduceAdd, Nat.reduceSub, Array.replicate_succ, Array.replicate_zero, List.push_toArray, List.append_toArray, List.nil_append, List.cons_append]
  clear hl hl' hJa
  have HB1 := Lib.hid (show Below W.heap.size W (W.alloc (.cells #[.int .i64 D, .slice A n c, .int .i64 D', .slice A' n' c'] 24)) from below_alloc W (.cells #[.int .i64 D, .slice A n c, .int .i64 D', .slice A' n' c'] 24))
  have hJ1 := HJA.out [] W (.cells #[.int .i64 D, .slice A n c, .int .i64 D', .slice A' n' c'] 24) h0
  have R1 : TwoSets (W.alloc (.cells #[.int .i64 D, .slice A n c, .int .i64 D', .slice A' n' c'] 24)) W.heap.size D A n c D' A' n' c' := heap_alloc_new W _
  gi_wp2
  generalize W.alloc (.cells #[.int .i64 D, .slice A n c, .int .i64 D', .slice A' n' c'] 24) = W1 at *
  have HW0 := Lib.hid hW0
  have hb1 : Below n₀ W W1 := HB1.out.mono HW0.out
  clear a0 a1 b0 b1 hBa hBb
  gi_loopw [12] (fun i wr => ∃ (s : Int) (k : Nat), ((s = 0 ∧ k = 0) ∨ (s = 1 ∧ k = n) ∨ (s = 2 ∧ k = n + n')) ∧ i = .int .i64 s ∧ J ((ps ++ ps').attach.take k) wr ∧ TwoSets wr W.heap.size D A n c D' A' n' c' ∧ Below n₀ W wr) (fun i _ => 2 - (intOf i).toNat)
  case atStart => exact ⟨0, 0, .inl ⟨rfl, rfl⟩, rfl, hJ1, R1, hb1⟩
  case round =>
    clear hJ1 R1 hb1
    obtain ⟨s, k, hsk, rfl, hJs, hRs, hnx⟩ := hrel
    rcases hsk with ⟨hs1, hs2⟩ | hsk
    · obtain rfl : s = 0 := hs1
      obtain rfl : k = 0 := hs2
      have hbox := below_alloc wr (.cells #[.int .i64 D, .slice A n c] 24)
      have hJ2 := HJA.out _ _ (.cells #[.int .i64 D, .slice A n c] 24) hJs
      have hR2 : TwoSets (wr.alloc (.cells #[.int .i64 D, .slice A n c] 24)) W.heap.size D A n c D' A' n' c' := (hbox.block _ (Array.getElem?_eq_some_iff.1 hRs).1).trans hRs
      have hn2 := hnx.trans (hbox.mono (Nat.le_trans HW0.out hnx.size))
      obtain ⟨t0, t1, t2, t3⟩ := TwoSets.cell hRs
      clear hRs hJs hnx hbox
      gi_wp2
      generalize wr.alloc (.cells #[.int .i64 D, .slice A n c] 24) = W2 at *
      clear t0 t1 t2 t3
      gi_loopw [19] (fun i wt => ∃ j : Nat, j ≤ n ∧ i = .int .i64 j ∧ J ((ps ++ ps').attach.take (0 + j)) wt ∧ TwoSets wt W.heap.size D A n c D' A' n' c' ∧ Below n₀ W wt) (fun i _ => n - (intOf i).toNat)
      case atStart => exact ⟨0, Nat.zero_le _, rfl, hJ2, hR2, hn2⟩
      case round =>
        clear hJ2 hR2 hn2
        obtain ⟨j, hj, rfl, hJs, hRs, hnx⟩ := hrel
        by_cases hlt : j < n
        · obtain ⟨b, off, rfl, hb, hc⟩ := hI (by omega)
          have hkl : 0 + j < (ps ++ ps').attach.length := by rw [List.length_attach, List.length_append, HL.out, HL'.out]; omega
          obtain ⟨x, hx⟩ : ∃ x : PAt (ps ++ ps'), (ps ++ ps').attach[0 + j]? = some x := ⟨_, List.getElem?_eq_getElem hkl⟩
          have hx1 : ps[j]? = some x.1 := by
            have := congrArg (Option.map Subtype.val) hx
            rw [← List.getElem?_map, List.attach_map_subtype_val] at this
            rw [Nat.zero_add, List.getElem?_append_left (by rw [HL.out]; exact hlt)] at this
            exact this
          have hcx : wr.cell? ⟨b, off + j, none⟩ = some (.slice x.1.A x.1.n x.1.c) := (hnx.cell (p := ⟨b, off + j, none⟩) hb).trans (hc j _ hx1)
          have HM := Lib.hid (att_hit hx)
          obtain ⟨fn, tmps, assign, body, hy, hR⟩ := hY _ x wr hJs (by rw [List.length_take]; omega)
          dsimp only [pEnc] at hy
          have hq1 : (j : Int) < n := by omega
          clear hc hx1 hx hkl
          gi_wp2
          refine hR.mono ?_
          rintro e W3 (⟨rfl, hJ3, hk3⟩ | ⟨rfl, hJx3⟩)
          · gi_wp2
            go_roundw
            case rel => exact ⟨j + 1, by omega, by go_num, by rw [show 0 + (j + 1) = 0 + j + 1 by omega, HM.out]; exact hJ3, hk3.2 _ _ _ hRs, hnx.trans hk3.1⟩
            case measure => simp [intOf]; omega
          · gi_wp2
            refine bodyPost_ret (results_none rfl _ _ _) rfl ?_
            exact ⟨⟨_, rfl⟩, .inr ⟨_, ⟨0 + j + 1, by omega, HM.out.symm⟩, hJx3⟩⟩
        · obtain rfl : j = n := by omega
          gi_wp2
          go_roundw
          case rel => exact ⟨0 + 1, 0 + j , .inr (.inl ⟨rfl, by omega⟩), by first | rfl | simp, hJs, hRs, hnx⟩
          case measure => simp [intOf]
    · rcases hsk with ⟨hs1, hs2⟩ | ⟨hs1, hs2⟩
      · obtain rfl : s = 1 := hs1
        have hs3 := hs2.symm
        subst hs3
        have hbox := below_alloc wr (.cells #[.int .i64 D', .slice A' n' c'] 24)
        have hJ2 := HJA.out _ _ (.cells #[.int .i64 D', .slice A' n' c'] 24) hJs
        have hR2 : TwoSets (wr.alloc (.cells #[.int .i64 D', .slice A' n' c'] 24)) W.heap.size D A n c D' A' n' c' := (hbox.block _ (Array.getElem?_eq_some_iff.1 hRs).1).trans hRs
        have hn2 := hnx.trans (hbox.mono (Nat.le_trans HW0.out hnx.size))
        obtain ⟨t0, t1, t2, t3⟩ := TwoSets.cell hRs
        clear hRs hJs hnx hbox
        gi_wp2
        generalize wr.alloc (.cells #[.int .i64 D', .slice A' n' c'] 24) = W2 at *
        clear t0 t1 t2 t3
        gi_loopw [19] (fun i wt => ∃ j : Nat, j ≤ n' ∧ i = .int .i64 j ∧ J ((ps ++ ps').attach.take (n + j)) wt ∧ TwoSets wt W.heap.size D A n c D' A' n' c' ∧ Below n₀ W wt) (fun i _ => n' - (intOf i).toNat)
        case atStart => exact ⟨0, Nat.zero_le _, rfl, hJ2, hR2, hn2⟩
        case round =>
          clear hJ2 hR2 hn2
          obtain ⟨j, hj, rfl, hJs, hRs, hnx⟩ := hrel
          by_cases hlt : j < n'
          · obtain ⟨b, off, rfl, hb, hc⟩ := hI' (by omega)
            have hkl : n + j < (ps ++ ps').attach.length := by rw [List.length_attach, List.length_append, HL.out, HL'.out]; omega
            obtain ⟨x, hx⟩ : ∃ x : PAt (ps ++ ps'), (ps ++ ps').attach[n + j]? = some x := ⟨_, List.getElem?_eq_getElem hkl⟩
            have hx1 : ps'[j]? = some x.1 := by
              have := congrArg (Option.map Subtype.val) hx
              rw [← List.getElem?_map, List.attach_map_subtype_val] at this
              rw [List.getElem?_append_right (by rw [HL.out]; omega), HL.out, show n + j - n = j by omega] at this
              exact this
            have hcx : wr.cell? ⟨b, off + j, none⟩ = some (.slice x.1.A x.1.n x.1.c) := (hnx.cell (p := ⟨b, off + j, none⟩) hb).trans (hc j _ hx1)
            have HM := Lib.hid (att_hit hx)
            obtain ⟨fn, tmps, assign, body, hy, hR⟩ := hY _ x wr hJs (by rw [List.length_take]; omega)
            dsimp only [pEnc] at hy
            have hq1 : (j : Int) < n' := by omega
            clear hc hx1 hx hkl
            gi_wp2
            refine hR.mono ?_
            rintro e W3 (⟨rfl, hJ3, hk3⟩ | ⟨rfl, hJx3⟩)
            · gi_wp2
              go_roundw
              case rel => exact ⟨j + 1, by omega, by go_num, by rw [show n + (j + 1) = n + j + 1 by omega, HM.out]; exact hJ3, hk3.2 _ _ _ hRs, hnx.trans hk3.1⟩
              case measure => simp [intOf]; omega
            · gi_wp2
              refine bodyPost_ret (results_none rfl _ _ _) rfl ?_
              exact ⟨⟨_, rfl⟩, .inr ⟨_, ⟨n + j + 1, by omega, HM.out.symm⟩, hJx3⟩⟩
          · obtain rfl : j = n' := by omega
            gi_wp2
            go_roundw
            case rel => exact ⟨1 + 1, n + j , .inr (.inr ⟨rfl, rfl⟩), by first | rfl | simp, hJs, hRs, hnx⟩
            case measure => simp [intOf]
      · obtain rfl : s = 2 := hs1
        obtain rfl : k = n + n' := hs2
        gi_wp2
        go_end0
        refine ⟨⟨_, rfl⟩, .inl ⟨_, rfl, ?_⟩⟩
        rw [List.take_of_length_le (by rw [List.length_attach, List.length_append, HL.out, HL'.out]; exact Nat.le_refl _)] at hJs
        exact hJs
end Go.Proofs.YtkgnlloioaobiaaGreat
namespace Go.Proofs.YtkgnlloioaobiaaGreat
open Go.RowKit Go.Shelf
theorem pieces_low {w W : World} {A : Option Addr} {n n₀ : Nat} {ps : List PEl} (P0 : PiecesAt w A n ps) (hn : w.heap.size ≤ n₀) (hb : Below w.heap.size w W) : 0 < n → ∃ b off, A = some ⟨b, off, none⟩ ∧ b < n₀ ∧ ∀ j p, ps[j]? = some p → W.cell? ⟨b, off + j, none⟩ = some (.slice p.A p.n p.c) := fun h => by
  obtain ⟨b, off, hA, hlt, hc⟩ := P0.cells h
  exact ⟨b, off, hA, Nat.lt_of_lt_of_le hlt hn, fun j p hp => (hb.cell (p := ⟨b, off + j, none⟩) hlt).trans (hc j p hp)⟩
theorem union_stops (F : Fence) (N : Nat) (hf : F.fn 49) (hro : F.round = none) (hN : 1 ≤ N) (Ba Bb : Nat) (D : Int) (A : Option Addr) (n c : Nat) (ps : List PEl) (D' : Int) (A' : Option Addr) (n' c' : Nat) (ps' : List PEl) (w w2 : World) (hw : Below w.heap.size w w2) (hBa : SetBox w Ba D A n c) (hBb : SetBox w Bb D' A' n' c') (P0 : PiecesAt w A n ps) (P1 : PiecesAt w A' n' ps') :
    SeqStopsK F N Tryz.prog 49 #[.pointer (some ⟨Ba, 0, none⟩), .pointer (some ⟨Bb, 0, none⟩)] (pEnc (ps ++ ps')) (KpS w.heap.size) (fun ys => ys = (ps ++ ps').attach) (fun pre => ∃ k, k ≤ n + n' ∧ pre = (ps ++ ps').attach.take k) (n + n') w2 := fun l J Jx W hW h1 _ hY h0 =>
  have hb := hw.trans (hW.mono hw.size)
  union1_in F N hf hro hN l Ba Bb w.heap.size D A n c ps D' A' n' c' ps' J Jx hY (fun pre W' o h => h1 pre W' (W'.alloc o) none h (World.grownBy_alloc W' o none) (fun r e => by cases e)) W (hBa.step hb) (hBb.step hb) hb.size P0.len P1.len P0.small P1.small (pieces_low P0 (Nat.le_refl _) hb) (pieces_low P1 (Nat.le_refl _) hb) h0
set_option maxHeartbeats 4000000 in
theorem set_union (D : Int) (A : Option Addr) (n c : Nat) (ps : List PEl) (A' : Option Addr) (n' c' : Nat) (ps' : List PEl) (w : World) (h : PiecesAt w A n ps) (h' : PiecesAt w A' n' ps') (hv1 : validS D ps = true) (hv2 : validS D ps' = true) :
    Calls Tryz.prog 14 #[setV D A n c, setV D A' n' c'] w fun e w' => GatherRet D.toNat w e w' D (gatherD D.toNat ((ps ++ ps').map PEl.dat)) := by
  have HE := Lib.hid (show bothE D ps D ps' = 0 by unfold bothE; rw [if_pos ⟨hv1, hv2⟩, if_pos rfl])
  have hvp := valid_parts hv1
  have hvq := valid_parts hv2
  have HPR := Lib.hid (show ∀ p ∈ ps ++ ps', (∀ e ∈ p.els, PreB D.toNat e) ∧ p.n ≤ 1000 from fun p hp => by
    rcases List.mem_append.1 hp with hp | hp
    · exact ⟨(hvp.2 p hp).1, by have h1 := (hvp.2 p hp).2; have := (h.conds p hp).len; omega⟩
    · exact ⟨(hvq.2 p hp).1, by have h1 := (hvq.2 p hp).2; have := (h'.conds p hp).len; omega⟩)
  have HN := Lib.hid (show D.toNat ≤ 100 by have := hvp.1; omega)
  obtain ⟨nn, hnn⟩ : ∃ nn, D.toNat = nn := ⟨_, rfl⟩
  rw [hnn] at HPR HN ⊢
  obtain ⟨gd, hgd⟩ : ∃ gd, gatherD nn ((ps ++ ps').map PEl.dat) = gd := ⟨_, rfl⟩
  rw [hgd]
  have HG := Lib.hid hgd
  obtain ⟨D', hD'⟩ : ∃ D', (if gd.1 ≠ 0 then (0 : Int) else D) = D' := ⟨_, rfl⟩
  have HDD := Lib.hid hD'
  have hB := below_step (below_step (below_alloc w (.cells #[.int .i64 D, .slice A n c] 24)) (below_alloc _ (.cells #[.int .i64 D, .slice A' n' c'] 24))) (below_alloc _ (.cells #[.int .i64 0, .slice none 0 0] 24))
  have X1 := ((SetBox.new w D A n c).alloc (.cells #[.int .i64 D, .slice A' n' c'] 24)).alloc (.cells #[.int .i64 0, .slice none 0 0] 24)
  have X2 := (SetBox.new (w.alloc (.cells #[.int .i64 D, .slice A n c] 24)) D A' n' c').alloc (.cells #[.int .i64 0, .slice none 0 0] 24)
  have X3 := SetBox.new ((w.alloc (.cells #[.int .i64 D, .slice A n c] 24)).alloc (.cells #[.int .i64 D, .slice A' n' c'] 24)) 0 none 0 0
  have P1 := h.step hB
  have P2 := h'.step hB
  have c0 := X1.c0
  have c1 := X1.c1
  have d0 := X2.c0
  have d1 := X2.c1
  simp only [World.size_alloc] at X2 X3 d0 d1
  clear h h' hv1 hv2 hvp hvq hgd hD' hnn
  go_enter Tryz.func14, Tryz.ntmps14
  go_wp2_with (first | (go_at_call 48; refine (set_both D A n c ps D A' n' c' ps' _ P1 P2).mono ?_; rintro e w1 ⟨rfl, hb⟩; rw [HE.out]; replace hB := below_step hB hb; replace P1 := P1.step hb; replace P2 := P2.step hb; replace X1 := X1.step hb; replace X2 := X2.step hb; replace X3 := X3.step hb; clear hb c0 c1 d0 d1; have c0 := X1.c0; have c1 := X1.c1; have d0 := X2.c0; have d1 := X2.c1; have HS1 := Lib.hid hB.size; have HL1 := Lib.hid X3.lt) | (go_at_call 44; refine (gathered_any (n := nn) HN.out D (n + n') (ps ++ ps') w1 (fun p hp => (List.mem_append.1 hp).elim (P1.conds p) (P2.conds p)) HPR.out _ _ (enters_of Tryz.func49 (by kernel_rfl) rfl) (fun w2 hw => union_stops Fence.wide 4 trivial rfl (by omega) _ _ D A n c ps D A' n' c' ps' w1 w2 hw X1 X2 P1 P2)).mono ?_; rw [HG.out]; rintro e w3 ⟨A3, k3, c3, qs, rfl, hP3, hok3, hd3, hA3, hb3⟩; rw [HDD.out]; have hB3 := below_step hB hb3; have Z3 := X3.step hb3; have r0 := Z3.c0; have r1 := Z3.c1; have f0 := Z3.f 0; have f1 := Z3.f 1))
  have X4 := Z3.put D' A3 k3 c3
  have hku := Z3.keepU (.int .i64 D') (.slice A3 k3 c3)
  have hok4 := fun p hp => (hok3 p hp).keep hku
  have hP4 := pieces_move hP3 hok4 hku.size (fun h0 g o hA => by
    obtain ⟨g', o', h1, h2⟩ := hA3 h0
    rw [hA] at h1
    cases h1
    exact put_other (by have := HL1.out; omega) _ _)
  have hb4 := hB3.trans (below_put (w := w3) (N := w.heap.size) (b := w.heap.size + 1 + 1) (by omega) (.int .i64 D') (.slice A3 k3 c3))
  generalize (w3.setCell ⟨w.heap.size + 1 + 1, 0, none⟩ (.int .i64 D')).setCell ⟨w.heap.size + 1 + 1, 1, none⟩ (.slice A3 k3 c3) = w4 at *
  have v0 := X4.c0
  have v1 := X4.c1
  refine bodyPost_ret (v := .tuple #[setV D' A3 k3 c3, .int .i64 gd.1]) (by simp [results, Tryz.results14, go_sem, v0, v1]) rfl ?_
  exact ⟨A3, k3, c3, qs, by rw [HDD.out], hP4, hok4, hd3, (fun h => let ⟨g, o, h1, h2⟩ := hA3 h; ⟨g, o, h1, by have := HS1.out; omega⟩), hb4⟩
end Go.Proofs.YtkgnlloioaobiaaGreat
namespace Go.Proofs.YtkgnlloioaobiaaGreat
structure EState (a b g rest x next : Int) (s t u : Int) (G R X N : Nat) : Prop where
  hs : s = 1 ∨ s = -1
  ht : t = 1 ∨ t = -1
  hu : u = 1 ∨ u = -1
  eg : g = s * G
  er : rest = t * R
  ex : x = u * X
  en : next = -(s * t * u) * N
  det : G * N + R * X = b.natAbs
  gcd : Nat.gcd G R = Nat.gcd a.natAbs b.natAbs
  c1 : b ∣ g - a * x
  c2 : b ∣ rest - a * next
  bX : X ≤ 1048576
  bN : N ≤ 1048576
  bG : G ≤ 1048576
  bR : R ≤ 1048576
theorem sign_of (a : Int) : ∃ s : Int, (s = 1 ∨ s = -1) ∧ a = s * a.natAbs := by
  by_cases h : 0 ≤ a
  · exact ⟨1, .inl rfl, by omega⟩
  · exact ⟨-1, .inr rfl, by omega⟩
theorem EState.start (a b : Int) (ha : a.natAbs ≤ 1048576) (hb : b.natAbs ≤ 1048576) : ∃ s t, EState a b a b 1 0 s t 1 a.natAbs b.natAbs 1 0 := by
  obtain ⟨s, hs, es⟩ := sign_of a
  obtain ⟨t, ht, et⟩ := sign_of b
  refine ⟨s, t, ⟨hs, ht, .inl rfl, es, et, by simp, by simp, by simp, rfl, by simp, by simp, by omega, by omega, ha, hb⟩⟩
theorem tdiv_signs {s t : Int} (hs : s = 1 ∨ s = -1) (ht : t = 1 ∨ t = -1) (G R : Nat) : (s * G).tdiv (t * R) = s * t * ((G / R : Nat) : Int) := by
  rcases hs with rfl | rfl <;> rcases ht with rfl | rfl <;> simp [Int.neg_tdiv, Int.tdiv_neg]
theorem EState.next_eq {a b g rest x next s t u : Int} {G R X N : Nat} (h : EState a b g rest x next s t u G R X N) :
    x - g.tdiv rest * next = u * ((X + G / R * N : Nat) : Int) := by
  rw [h.eg, h.er, tdiv_signs h.hs h.ht, h.ex, h.en, Int.natCast_add, Int.natCast_mul]
  generalize ((G / R : Nat) : Int) = q
  rcases h.hs with rfl | rfl <;> rcases h.ht with rfl | rfl <;> rcases h.hu with rfl | rfl <;> simp [Int.neg_mul, Int.mul_neg] <;> omega
theorem EState.rest_eq {a b g rest x next s t u : Int} {G R X N : Nat} (h : EState a b g rest x next s t u G R X N) :
    g - g.tdiv rest * rest = s * ((G % R : Nat) : Int) := by
  have e := Nat.div_add_mod G R
  have e' : ((G : Nat) : Int) = (R : Int) * ((G / R : Nat) : Int) + ((G % R : Nat) : Int) := by rw [← Int.natCast_mul, ← Int.natCast_add, e]
  rw [h.eg, h.er, tdiv_signs h.hs h.ht]
  have e2 : ((G / R : Nat) : Int) * (R : Int) = (G : Int) - ((G % R : Nat) : Int) := by rw [Int.mul_comm]; omega
  generalize ((G / R : Nat) : Int) = q at *
  rcases h.hs with rfl | rfl <;> rcases h.ht with rfl | rfl <;> simp [Int.neg_mul, Int.mul_neg] <;> omega
theorem EState.step {a b g rest x next s t u : Int} {G R X N : Nat} (h : EState a b g rest x next s t u G R X N) (hR : R ≠ 0) (hb : b.natAbs ≤ 1048576) :
    EState a b rest (g - g.tdiv rest * rest) next (x - g.tdiv rest * next) t s (-(s * t * u)) R (G % R) N (X + G / R * N) := by
  have e := Nat.div_add_mod G R
  have hdet : R * (X + G / R * N) + G % R * N = b.natAbs := by
    rw [← h.det]
    have : G * N = R * (G / R) * N + G % R * N := by rw [← Nat.add_mul, e]
    rw [this, Nat.mul_add, Nat.mul_assoc]; omega
  have hN : X + G / R * N ≤ 1048576 := by
    have h2 : 1 * (X + G / R * N) ≤ R * (X + G / R * N) := Nat.mul_le_mul_right _ (by omega)
    omega
  refine ⟨h.ht, h.hs, ?_, h.er, h.rest_eq, ?_, ?_, hdet, ?_, ?_, ?_, h.bN, hN, h.bR, ?_⟩
  · rcases h.hs with rfl | rfl <;> rcases h.ht with rfl | rfl <;> rcases h.hu with rfl | rfl <;> simp
  · exact h.en
  · rw [h.next_eq]
    rcases h.hs with rfl | rfl <;> rcases h.ht with rfl | rfl <;> rcases h.hu with rfl | rfl <;> simp
  · rw [← h.gcd, Nat.gcd_comm G R]
    rw [Nat.gcd_rec R G]; exact Nat.gcd_comm _ _
  · exact h.c2
  · have e1 : g - g.tdiv rest * rest - a * (x - g.tdiv rest * next) = (g - a * x) - g.tdiv rest * (rest - a * next) := by
      simp only [Int.mul_sub, Int.mul_left_comm a]; omega
    rw [e1]
    exact Int.dvd_sub h.c1 (Int.dvd_mul_of_dvd_right h.c2)
  · have := Nat.mod_lt G (Nat.pos_of_ne_zero hR); have := h.bR; omega
structure IsSplit (a b : Int) (g : Nat) (x : Int) : Prop where
  gcd : g = Nat.gcd a.natAbs b.natAbs
  dvd : b ∣ (g : Int) - a * x
  lo : 0 ≤ x
  hi : x < ((b.natAbs / g : Nat) : Int)
theorem gcd_pos {a b : Int} (hb : b ≠ 0) : 0 < Nat.gcd a.natAbs b.natAbs := Nat.gcd_pos_of_pos_right _ (by omega)
theorem mod_split {a b x0 : Int} (hb : b ≠ 0) (h : b ∣ (Nat.gcd a.natAbs b.natAbs : Int) - a * x0) :
    IsSplit a b (Nat.gcd a.natAbs b.natAbs) (x0 % ((b.natAbs / Nat.gcd a.natAbs b.natAbs : Nat) : Int)) := by
  have hg := gcd_pos (a := a) hb
  generalize hgd : Nat.gcd a.natAbs b.natAbs = g at *
  have ga : g ∣ a.natAbs := hgd ▸ Nat.gcd_dvd_left _ _
  have gb : g ∣ b.natAbs := hgd ▸ Nat.gcd_dvd_right _ _
  have eb : g * (b.natAbs / g) = b.natAbs := Nat.mul_div_cancel' gb
  have hd : 0 < b.natAbs / g := Nat.div_pos (Nat.le_of_dvd (by omega) gb) hg
  generalize hdd : b.natAbs / g = d at *
  refine ⟨hgd.symm, ?_, Int.emod_nonneg _ (by omega), ?_⟩
  rotate_left
  · have e0 : (b.natAbs / g : Nat) = d := hdd
    rw [e0]; exact Int.emod_lt_of_pos x0 (show (0 : Int) < d by omega)
  have e : (g : Int) - a * (x0 % (d : Int)) = ((g : Int) - a * x0) + a * (d : Int) * (x0 / (d : Int)) := by
    have := Int.mul_ediv_add_emod x0 (d : Int)
    have h2 : a * x0 = a * ((d : Int) * (x0 / (d : Int)) + x0 % (d : Int)) := by rw [this]
    rw [Int.mul_add, ← Int.mul_assoc] at h2
    omega
  rw [e]
  refine Int.dvd_add h (Int.dvd_mul_of_dvd_left ?_)
  obtain ⟨k, hk⟩ := Int.ofNat_dvd_left.2 ga
  have e2 : a * (d : Int) = k * ((b.natAbs : Nat) : Int) := by
    rw [hk, ← eb, Int.natCast_mul, Int.mul_comm (g : Int) k, Int.mul_assoc]
  rw [e2]
  exact Int.dvd_mul_of_dvd_right (Int.dvd_natAbs_self)
theorem IsSplit.least {a b x y : Int} {g : Nat} (hb : b ≠ 0) (h : IsSplit a b g x) (h0 : 0 ≤ y) (hy : y < x) : ¬ b ∣ (g : Int) - a * y := by
  intro hd
  have hg : 0 < g := h.gcd ▸ gcd_pos hb
  have h1 : b ∣ a * (x - y) := by
    have := Int.dvd_sub hd h.dvd
    have e : (g : Int) - a * y - ((g : Int) - a * x) = a * (x - y) := by rw [Int.mul_sub]; omega
    rwa [e] at this
  have h2 : b.natAbs ∣ a.natAbs * (x - y).natAbs := by rw [← Int.natAbs_mul]; exact Int.natAbs_dvd_natAbs.2 h1
  have ga : g ∣ a.natAbs := h.gcd ▸ Nat.gcd_dvd_left _ _
  have gb : g ∣ b.natAbs := h.gcd ▸ Nat.gcd_dvd_right _ _
  have co : Nat.Coprime (a.natAbs / g) (b.natAbs / g) := by rw [h.gcd]; exact Nat.coprime_div_gcd_div_gcd (gcd_pos hb)
  have eb : g * (b.natAbs / g) = b.natAbs := Nat.mul_div_cancel' gb
  have ea : g * (a.natAbs / g) = a.natAbs := Nat.mul_div_cancel' ga
  have hi := h.hi
  rw [← eb, ← ea, Nat.mul_assoc] at h2
  have h3 := Nat.dvd_of_mul_dvd_mul_left hg h2
  have h4 := co.symm.dvd_of_dvd_mul_left h3
  have := Nat.le_of_dvd (by omega) h4
  omega
theorem IsSplit.unique {a b x y : Int} {g g' : Nat} (hb : b ≠ 0) (h : IsSplit a b g x) (h' : IsSplit a b g' y) : g = g' ∧ x = y := by
  have e : g = g' := h.gcd.trans h'.gcd.symm
  subst e
  refine ⟨rfl, ?_⟩
  rcases Int.lt_trichotomy x y with hl | he | hl
  · exact absurd h.dvd (h'.least hb h.lo hl)
  · exact he
  · exact absurd h'.dvd (h.least hb h'.lo hl)
end Go.Proofs.YtkgnlloioaobiaaGreat
namespace Go.Proofs.YtkgnlloioaobiaaGreat
open Go.RowKit
theorem EState.done {a b g x next s t u : Int} {G X N : Nat} (h : EState a b g 0 x next s t u G 0 X N) (hb : b ≠ 0) :
    G = Nat.gcd a.natAbs b.natAbs ∧ ((g = G ∧ ∀ y, IsSplit a b G y → x % ((b.natAbs / G : Nat) : Int) = y) ∨ (g = -(G : Int) ∧ ∀ y, IsSplit a b G y → (-x) % ((b.natAbs / G : Nat) : Int) = y)) := by
  have e : G = Nat.gcd a.natAbs b.natAbs := by rw [← h.gcd]; simp
  refine ⟨e, ?_⟩
  have hc := h.c1
  have hg := h.eg
  rcases h.hs with hs | hs
  · rw [hs] at hg
    refine .inl ⟨by omega, fun y hy => ?_⟩
    have h1 := mod_split (a := a) (b := b) (x0 := x) hb (by rw [← e]; have : (G : Int) - a * x = g - a * x := by omega
                                                            rw [this]; exact hc)
    rw [← e] at h1
    exact (h1.unique hb hy).2
  · rw [hs] at hg
    refine .inr ⟨by omega, fun y hy => ?_⟩
    have h1 := mod_split (a := a) (b := b) (x0 := -x) hb (by rw [← e, Int.mul_neg]; have : (G : Int) - -(a * x) = -(g - a * x) := by omega
                                                             rw [this]; exact Int.dvd_neg.2 hc)
    rw [← e] at h1
    exact (h1.unique hb hy).2
end Go.Proofs.YtkgnlloioaobiaaGreat
namespace Go.Proofs.YtkgnlloioaobiaaGreat
open Go.RowKit
theorem sub_ints {w : World} {b off n d k : Nat} {xs : List Int} (h : IntsAt w (some ⟨b, off, none⟩) n xs) (hd : d + k ≤ n) : IntsAt w (some ⟨b, off + d, none⟩) k ((xs.drop d).take k) := by
  by_cases hk : k = 0
  · subst hk
    exact ⟨by simp, by omega, fun x hx => by simp at hx, fun h0 => absurd h0 (by omega)⟩
  · obtain ⟨b', off', e, hb, hc⟩ := h.cells (by omega)
    simp only [Option.some.injEq, Addr.mk.injEq, and_true] at e
    obtain ⟨rfl, rfl⟩ := e
    exact ints_sub h.len h.small h.wf hb hc hd
end Go.Proofs.YtkgnlloioaobiaaGreat
namespace Go.Proofs.YtkgnlloioaobiaaGreat.setPoints
open Go.ChangeShapes Go.WideShapes Go.ChangeAt Go.RowKit
theorem s_elim {D : Int} {ps : List PEl} {xs : List Int} (h : sErr D ps xs = 0) : validS D ps = true ∧ (xs.length : Int) = D ∧ pointB xs = true := by
  unfold sErr at h
  split at h
  · rename_i h1
    split at h
    · rename_i h2
      split at h
      · rename_i h3; exact ⟨h1, h2, h3⟩
      · cases h
    · cases h
  · cases h
theorem spec_ok {F : Nat} {args : Array Value} {nn : Nat} {D : Int} {W : World} {gd : Int × List (List CD)} {xs : List Int} {b : Bool} (hG : Calls Tryz.prog F args W fun e w' => GatherRet nn W e w' D gd) (h0 : gd.1 = 0) (hh : ∀ us : List PEl, (∀ p ∈ us, ∀ e ∈ p.els, e.xs.length = e.n) → (0, us.map PEl.dat) = gd → GoodU nn (us.map PEl.dat) ∧ hasS xs us = b) :
    Calls Tryz.prog F args W fun e w' => ∃ A k c us, e = .returned (.tuple #[setV D A k c, .int .i64 0]) ∧ PiecesAt w' A k us ∧ Below W.heap.size W w' ∧ hasS xs us = b ∧ ∀ p ∈ us, condsE nn p.els = 0 := by
  obtain ⟨er, l⟩ := gd
  simp only at h0
  subst h0
  refine hG.mono ?_
  intro e w' hg
  obtain ⟨A, k, c, us, he, hP, _, hd, _, hb⟩ := gather_ok hg
  have hl := pieces_lens hP
  obtain ⟨hgu, hx⟩ := hh us hl (by rw [hd])
  exact ⟨A, k, c, us, he, hP, hb, hx, conds_good hl hgu⟩
theorem spec_bad {F : Nat} {args : Array Value} {nn : Nat} {D : Int} {W : World} {gd : Int × List (List CD)} (hG : Calls Tryz.prog F args W fun e w' => GatherRet nn W e w' D gd) (h0 : gd.1 ≠ 0) :
    Calls Tryz.prog F args W fun e w' => ∃ A k c, e = .returned (.tuple #[setV 0 A k c, .int .i64 gd.1]) ∧ Below W.heap.size W w' := by
  obtain ⟨er, l⟩ := gd
  refine hG.mono ?_
  intro e w' hg
  exact gather_bad h0 hg
theorem cut_high {W : World} {bO offO k oc i : Nat} {q : Option Addr} {xs : List Int} (hko : k ≤ oc) (hik : i < k) (h : IntsAt W (some ⟨bO, offO, none⟩) k xs) (hq : (if oc = i + 1 then some (⟨bO, offO, none⟩ : Addr) else some ⟨bO, offO + (i + 1), none⟩) = q) : IntsAt W q (k - (i + 1)) (xs.drop (i + 1)) := by
  have h7 := h.len
  have h := sub_ints (d := i + 1) (k := k - (i + 1)) h (by omega)
  rw [List.take_of_length_le (by have h9 := h.len; rw [List.length_take] at h9; have h8 := h7; rw [List.length_drop]; omega)] at h
  rw [← hq]
  split
  · have h0 : k - (i + 1) = 0 := by omega
    exact ⟨h.len, h.small, h.wf, fun hn => absurd hn (by omega)⟩
  · exact h
theorem spec_ok2 {F : Nat} {args : Array Value} {nn : Nat} {D : Int} {W : World} {gd : Int × List (List CD)} {xs : List Int} {b : Bool} (hG : Calls Tryz.prog F args W fun e w' => GatherRet nn W e w' D gd) (h0 : gd.1 = 0) (hh : ∀ us : List PEl, (∀ p ∈ us, ∀ e ∈ p.els, e.xs.length = e.n) → (0, us.map PEl.dat) = gd → GoodU nn (us.map PEl.dat) ∧ hasS xs us = b) :
    Calls Tryz.prog F args W fun e w' => ∃ A k c us, e = .returned (.tuple #[setV D A k c, .int .i64 0]) ∧ PiecesAt w' A k us ∧ (∀ p ∈ us, PieceOk nn w' p) ∧ (0 < k → ∃ g o, A = some ⟨g, o, none⟩ ∧ W.heap.size ≤ g) ∧ Below W.heap.size W w' ∧ hasS xs us = b ∧ ∀ p ∈ us, condsE nn p.els = 0 := by
  obtain ⟨er, l⟩ := gd
  simp only at h0
  subst h0
  refine hG.mono ?_
  intro e w' hg
  obtain ⟨A, k, c, us, he, hP, hk, hd, hA, hb⟩ := gather_ok hg
  have hl := pieces_lens hP
  obtain ⟨hgu, hx⟩ := hh us hl (by rw [hd])
  exact ⟨A, k, c, us, he, hP, hk, hA, hb, hx, conds_good hl hgu⟩
section
variable {ops : Array Oper} {o : Oper} {a : Act} {w : World} {Q : Exit → Act → World → Prop}
theorem step_append_wanted {K : Act → World → Prop} {E : Prop} (hw : Region.wanted o (yielded ops a.tmps) = true) (s x : Operand) (ho : o.op = .call { callee := .builtin .append, args := #[s, x], argTypes := #[38, 38] })
    (B : Nat) (v : Value) (n m q : Nat) (zs ys us : List Int) (hnq : n + m = q) (hzu : zs ++ ys = us) (hs : a.eval s = v) (hown : w.ownsRow B 3 1 v n (vals zs)) (A : Option Addr) (c : Nat) (hx : a.eval x = .slice A m c) (hI : IntsAt w A m ys) (hnm : q ≤ 17592186044416) (hB : B ≤ w.heap.size) (w0 : World) (hb : Below B w0 w)
    (h : ∀ A' c' w', w'.ownsRow B 3 1 (.slice A' q c') q (vals us) → Below B w0 w' → K (a.put o.dst (.slice A' q c')) w') : if Region.wanted o (yielded ops a.tmps) = true then Oper.wp Tryz.prog o a w K Q else E := by
  subst hnq hzu
  rw [if_pos hw]
  obtain ⟨v', w', h1, h2, h3, _⟩ := append_ints w B o.type v n (vals zs) hown A m c ys hI hnm hB
  obtain ⟨A', c', rfl⟩ := own_slice h2
  unfold Oper.wp
  rw [exec_append ho hs hx h1, Oper.upon_value]
  exact h A' c' w' (by rw [vals_app]; exact h2) (hb.grown h3 hB (fun k hk => (hown.lt k hk).1))
end
structure GoodS (w W : World) (nn : Nat) (A : Option Addr) (n c : Nat) (ps : List PEl) (A' : Option Addr) (n' c' : Nat) (ps' : List PEl) (O : Option Addr) (k oc : Nat) (xs : List Int) : Prop where
  b : Below w.heap.size w W
  p : PiecesAt W A n ps
  q : PiecesAt W A' n' ps'
  i : IntsAt W O k xs
  x : SetBox W w.heap.size nn A n c
  y : SetBox W (w.heap.size + 1) nn A' n' c'
end Go.Proofs.YtkgnlloioaobiaaGreat.setPoints
