/-
  Part 6 of the texts that the laws stand on.
-/
import Derived.Test.YtkgnlloioaobiaaGreatJe
set_option linter.unusedVariables false
set_option linter.unusedSimpArgs false
set_option maxRecDepth 100000
set_option linter.unusedSectionVars false
namespace Go.Proofs.YtkgnlloioaobiaaGreat
open Go.RowKit
theorem void_ret {n : Nat} {w w' : World} {e : Ending} {r : List CD × Bool × Int} (hr : r = ([], true, 0)) (he : e = .returned (.tuple #[.slice none 0 0, .bool true, .int .i64 0])) (hb : Below w.heap.size w w') : PieceRet w e w' n r := by
  subst hr
  exact ⟨none, 0, 0, [], he, CL.nil _ _, rfl, (fun e h => nomatch h), hb⟩
theorem full_ret {n : Nat} {w w' : World} {e : Ending} {r : List CD × Bool × Int} (hr : r = ([], false, 3)) (he : e = .returned (.tuple #[.slice none 0 0, .bool false, .int .i64 3])) (hb : Below w.heap.size w w') : PieceRet w e w' n r := by
  subst hr
  exact ⟨none, 0, 0, [], he, CL.nil _ _, rfl, (fun e h => nomatch h), hb⟩
theorem own_new {u : Value} {g k c b s : Nat} (hf : u.ownBlock = some g ∨ g = s) (hu : u.ownBlock ≠ some b) (hb : b < s) : (Value.slice (some ⟨g, 0, none⟩) k c).ownBlock ≠ some b := fun e => by
  have e2 : g = b := by simpa [Value.ownBlock] using e
  subst e2
  rcases hf with h | h
  · exact hu h
  · omega
set_option maxHeartbeats 8000000 in
theorem ref_piece {n : Nat} (hn12 : n ≤ 12) {A : Option Addr} {m c : Nat} {els0 : List CEl} (w : World) (C0 : CondsAt w A m els0) (hpre : ∀ e ∈ els0, PreB n e) (hm : m ≤ 1000) :
    Calls Tryz.prog 55 #[.slice A m c] w fun e w' => PieceRet w e w' n (pieceD n (els0.map CEl.d)) := by
  have HPRE := Lib.hid hpre
  have HND := Lib.hid (norm_all C0.ints hpre)
  have HL := Lib.hid C0.len
  obtain ⟨ds, hds⟩ : ∃ ds, els0.map CEl.d = ds := ⟨_, rfl⟩
  rw [hds] at HND ⊢
  have HDS := Lib.hid hds
  obtain ⟨pd, hpd⟩ : ∃ pd, pieceD n ds = pd := ⟨_, rfl⟩
  rw [hpd]
  have HPD := Lib.hid hpd
  clear hpre hds hpd
  go_enter Tryz.func55, Tryz.ntmps55
  go_wp2
  go_loopw [5, 6, 7, 8, 36] (fun f g e v k wr => ∃ (i : Nat) (fu : Bool) (G E V : List CEl), i ≤ m ∧ k = .int .i64 i ∧ f = .bool fu ∧ Three n w.heap.size wr (normOut n (ds.take i)) g e v G E V ∧ Hid (normVoid n (ds.take i) = false) ∧ Hid (fu = !normFits n (ds.take i)) ∧ Hid ((normOut n (ds.take i)).length ≤ i) ∧ Below w.heap.size w wr) (fun _ _ _ _ k _ => m - (intOf k).toNat)
  case atStart => exact ⟨0, false, [], [], [], Nat.zero_le _, rfl, rfl, Three.nil _ _ _, Lib.hid rfl, Lib.hid rfl, Lib.hid (Nat.le_refl _), Below.refl _ _⟩
  case round =>
    obtain ⟨i, fu, G, E, V, hi, rfl, rfl, hT, HV, HF, HLN, hbr⟩ := hrel
    by_cases hlt : i < m
    · obtain ⟨b, off, e, rfl, hblt, hej, hmem, hcs, hin⟩ := (C0.step hbr).at hlt
      obtain ⟨x0, x1, x2, x3⟩ := hcs
      have HDJ0 := Lib.hid (show ds[i]? = some e.d by rw [← HDS.out, List.getElem?_map, hej]; rfl)
      obtain ⟨hen, hek, heK, hex⟩ := HPRE.out e hmem
      obtain ⟨eq, eM, eA, en, ec, eK, exs⟩ := e
      simp only at x0 x1 x2 x3 hin hen hek heK hex
      have HDJ := Lib.hid (show ds[i]? = some (⟨eq, eM, exs, eK⟩ : CD) from HDJ0.out)
      clear HDJ0
      subst hen
      have hq1 : (i : Int) < m := by omega
      have b5 := below_alloc wr (.cells #[.int .i64 eq, .int .i64 eM, .slice eA en ec, .int .i64 eK] 56)
      have X1 := CBox.new wr eq eM eA en ec eK
      have c0 := X1.c0
      have c1 := X1.c1
      have c2 := X1.c2
      have c3 := X1.c3
      have hT3 := hT.few
      have HIL := Lib.hid hin.len
      have T5 := hT.step b5
      have hb5 := hbr.trans (b5.mono hbr.size)
      have HMD := Lib.hid (fun W (I : IntsAt W eA en exs) => ref_made eq eM eA en ec (by omega) eK exs hek (by omega) (fun x hx => by have := hex x hx; omega) W I)
      have hst := nf_state (K := eK) hin.len hek
      have I5 := hin.step b5
      have HSZ := Lib.hid b5.size
      obtain ⟨r, hr⟩ : ∃ r, nf eq eM en exs eK = r := ⟨_, rfl⟩
      have HR := Lib.hid hr
      rw [hr] at HMD hst
      obtain ⟨rq, rM, rX, rK, rs⟩ := r
      simp only at hst
      have HNO := Lib.hid (fun (z : CD) (hz : z ∈ openD en ⟨eq, eM, exs, eK⟩) => HND.out z (List.mem_flatMap.2 ⟨_, List.mem_of_getElem? HDJ.out, hz⟩))
      have HOS := Lib.hid (open_snoc (n := en) HDJ.out)
      have HFS := Lib.hid (fits_snoc3 (n := en) HDJ.out)
      have hbound : IntKind.i64.wrap ((i : Int) + 1) = (i : Int) + 1 := IntWalk.i64_in _ (by omega)
      clear hej hmem hin hr hT b5 hbound
      rcases hst with ⟨hs, hlX, _⟩ | hs | hs
      · subst hs
        have HVS := Lib.hid (void_snoc (n := en) HDJ.out HV.out (by show (nf eq eM en exs eK).2.2.2.2 ≠ -1; rw [HR.out]; show (0 : Int) ≠ -1; decide))
        have HOZ := Lib.hid (show openD en ⟨eq, eM, exs, eK⟩ = [⟨rq, rM, rX, rK⟩] by
          rw [open_zero (by show (nf eq eM en exs eK).2.2.2.2 = 0; rw [HR.out])]
          show [(⟨(nf eq eM en exs eK).1, (nf eq eM en exs eK).2.1, (nf eq eM en exs eK).2.2.1, (nf eq eM en exs eK).2.2.2.1⟩ : CD)] = _
          rw [HR.out])
        have HZN := Lib.hid (show NormD en ⟨rq, rM, rX, rK⟩ from HNO.out _ (by rw [HOZ.out]; exact List.mem_singleton_self _))
        have HXL := Lib.hid hlX
        have HSZ5 := Lib.hid hb5.size
        have HVC := Lib.hid (show validC rq rM rX rK = validB rX rK by
          have h9 := (nf_valid1 (K := eK) HIL.out hek (by rw [HR.out])).1
          rw [HR.out] at h9
          exact h9)
        obtain ⟨fv, hfv⟩ : ∃ fv, validB rX rK = fv := ⟨_, rfl⟩
        rw [hfv] at HVC
        have HFV := Lib.hid hfv
        have HF3 := hT3
        have HCG := Lib.hid (show G.length + 1 ≤ 100000 by have h1 := HF3.1; have h2 := HLN.out; omega)
        have HCE := Lib.hid (show E.length + 1 ≤ 100000 by have h1 := HF3.2.1; have h2 := HLN.out; omega)
        have HCV := Lib.hid (show V.length + 1 ≤ 100000 by have h1 := HF3.2.2; have h2 := HLN.out; omega)
        clear hlX hfv HF3 hT3
        cases fu
        · have HFU := Lib.hid (show (!fv) = !normFits en (ds.take (i + 1)) by
            rw [HFS.out, HOZ.out]
            have h9 := HF.out
            simp only [List.all_cons, List.all_nil, Bool.and_true]
            rw [show fitD (⟨rq, rM, rX, rK⟩ : CD) = fv from HFV.out]
            cases hh : normFits en (ds.take i)
            · rw [hh] at h9; cases h9
            · rfl)
          rcases HZN.out.q with hrq | hrq | hrq
          · have hrq : rq = 0 := hrq
            subst hrq
            go_wp2_with (first | (go_at_call 81; refine (HMD.out _ I5).mono ?_; rintro x w2 ⟨A2, n2, c2', rfl, J2, hb, hfr⟩; have b9 := below_alloc w2 (.cells #[.int .i64 0, .int .i64 rM, .slice A2 n2 c2', .int .i64 rK] 56); have hx := below_step hb b9; have T6 := T5.step hx; have hb6 := hb5.trans (hx.mono hb5.size); have J6 := J2.step b9; have R6 := (FreshRow.ok hfr HSZ5.out).step b9; have Z6 := CBox.new w2 0 rM A2 n2 c2' rK; have z0 := Z6.c0; have z1 := Z6.c1; have z2 := Z6.c2; have z3 := Z6.c3; have HN2 := Lib.hid (show n2 = en from J2.len.symm.trans HXL.out); have hsz6 : w.heap.size ≤ (w2.alloc (.cells #[.int .i64 0, .int .i64 rM, .slice A2 n2 c2', .int .i64 rK] 56)).heap.size := hb6.size; have b10 := below_alloc (w2.alloc (.cells #[.int .i64 0, .int .i64 rM, .slice A2 n2 c2', .int .i64 rK] 56)) (.cells #[.int .i64 0, .int .i64 rM, .slice A2 n2 c2', .int .i64 rK] 56); have HROW := Lib.hid (show ((w2.alloc (.cells #[.int .i64 0, .int .i64 rM, .slice A2 n2 c2', .int .i64 rK] 56)).alloc (.cells #[.int .i64 0, .int .i64 rM, .slice A2 n2 c2', .int .i64 rK] 56)).heap[w2.heap.size + 1]? = some (.cells (CEl.cells ⟨0, rM, A2, n2, c2', rK, rX⟩).toArray 56 (0, 0)) from (by have h9 := heap_alloc_new (w2.alloc (.cells #[.int .i64 0, .int .i64 rM, .slice A2 n2 c2', .int .i64 rK] 56)) (.cells #[.int .i64 0, .int .i64 rM, .slice A2 n2 c2', .int .i64 rK] 56); rw [World.size_alloc] at h9; exact h9)); clear hb b9 hx hfr) | (go_at_call 58; refine (ref_cvalid 0 rM A2 n2 c2' rK rX _ J6).mono ?_; rintro x w3 ⟨rfl, hb⟩; rw [HVC.out]; have T7 := T6.step hb; have hb7 := hb6.trans (hb.mono hb6.size); have J7 := J6.step hb; have R7 := R6.step hb; have Z7 := Z6.step hb; clear z0 z1 z2 z3; have z0 := Z7.c0; have z1 := Z7.c1; have z2 := Z7.c2; have z3 := Z7.c3; have b11 := below_alloc w3 (.cells #[.int .i64 0, .int .i64 rM, .slice A2 n2 c2', .int .i64 rK] 56); have hsz7 : w.heap.size ≤ w3.heap.size := hb7.size; clear hb) | (at_builtin; refine wpList_append_cond3 rfl _ _ 34 rfl rfl rfl (T7.g.step b11) w3.heap.size ⟨0, rM, A2, n2, c2', rK, rX⟩ rfl (heap_alloc_new w3 (.cells #[.int .i64 0, .int .i64 rM, .slice A2 n2 c2', .int .i64 rK] 56)) (J7.step b11) (R7.step b11) HCG.out (hb7.trans (b11.mono hb7.size)).size ?_; intro g9 cap9 w9 L9 hgr9 hb9 hf9; have T9 := Three.addG (x := ⟨0, rM, A2, n2, c2', rK, rX⟩) (T7.step b11) rfl HN2.out L9 hgr9 hf9; have hb12 := (hb7.trans (b11.mono hb7.size)).trans hb9; clear L9 hgr9 hf9 hb9))
            go_roundw
            case rel => exact ⟨i + 1, !fv, G ++ [⟨0, rM, A2, n2, c2', rK, rX⟩], E, V, by omega, by go_num, by first | rfl | simp, by rw [HOS.out, HOZ.out]; exact T9, HVS, HFU, Lib.hid (by rw [HOS.out, HOZ.out, List.length_append]; have := HLN.out; simp; omega), hb12⟩
            case measure => simp [intOf]; omega
          · have hrq : rq = 1 := hrq
            subst hrq
            go_wp2_with (first | (go_at_call 81; refine (HMD.out _ I5).mono ?_; rintro x w2 ⟨A2, n2, c2', rfl, J2, hb, hfr⟩; have b9 := below_alloc w2 (.cells #[.int .i64 1, .int .i64 rM, .slice A2 n2 c2', .int .i64 rK] 56); have hx := below_step hb b9; have T6 := T5.step hx; have hb6 := hb5.trans (hx.mono hb5.size); have J6 := J2.step b9; have R6 := (FreshRow.ok hfr HSZ5.out).step b9; have Z6 := CBox.new w2 1 rM A2 n2 c2' rK; have z0 := Z6.c0; have z1 := Z6.c1; have z2 := Z6.c2; have z3 := Z6.c3; have HN2 := Lib.hid (show n2 = en from J2.len.symm.trans HXL.out); have hsz6 : w.heap.size ≤ (w2.alloc (.cells #[.int .i64 1, .int .i64 rM, .slice A2 n2 c2', .int .i64 rK] 56)).heap.size := hb6.size; have b10 := below_alloc (w2.alloc (.cells #[.int .i64 1, .int .i64 rM, .slice A2 n2 c2', .int .i64 rK] 56)) (.cells #[.int .i64 1, .int .i64 rM, .slice A2 n2 c2', .int .i64 rK] 56); have HROW := Lib.hid (show ((w2.alloc (.cells #[.int .i64 1, .int .i64 rM, .slice A2 n2 c2', .int .i64 rK] 56)).alloc (.cells #[.int .i64 1, .int .i64 rM, .slice A2 n2 c2', .int .i64 rK] 56)).heap[w2.heap.size + 1]? = some (.cells (CEl.cells ⟨1, rM, A2, n2, c2', rK, rX⟩).toArray 56 (0, 0)) from (by have h9 := heap_alloc_new (w2.alloc (.cells #[.int .i64 1, .int .i64 rM, .slice A2 n2 c2', .int .i64 rK] 56)) (.cells #[.int .i64 1, .int .i64 rM, .slice A2 n2 c2', .int .i64 rK] 56); rw [World.size_alloc] at h9; exact h9)); clear hb b9 hx hfr) | (go_at_call 58; refine (ref_cvalid 1 rM A2 n2 c2' rK rX _ J6).mono ?_; rintro x w3 ⟨rfl, hb⟩; rw [HVC.out]; have T7 := T6.step hb; have hb7 := hb6.trans (hb.mono hb6.size); have J7 := J6.step hb; have R7 := R6.step hb; have Z7 := Z6.step hb; clear z0 z1 z2 z3; have z0 := Z7.c0; have z1 := Z7.c1; have z2 := Z7.c2; have z3 := Z7.c3; have b11 := below_alloc w3 (.cells #[.int .i64 1, .int .i64 rM, .slice A2 n2 c2', .int .i64 rK] 56); have hsz7 : w.heap.size ≤ w3.heap.size := hb7.size; clear hb) | (at_builtin; refine wpList_append_cond3 rfl _ _ 34 rfl rfl rfl (T7.e.step b11) w3.heap.size ⟨1, rM, A2, n2, c2', rK, rX⟩ rfl (heap_alloc_new w3 (.cells #[.int .i64 1, .int .i64 rM, .slice A2 n2 c2', .int .i64 rK] 56)) (J7.step b11) (R7.step b11) HCE.out (hb7.trans (b11.mono hb7.size)).size ?_; intro g9 cap9 w9 L9 hgr9 hb9 hf9; have T9 := Three.addE (x := ⟨1, rM, A2, n2, c2', rK, rX⟩) (T7.step b11) rfl HN2.out L9 hgr9 hf9; have hb12 := (hb7.trans (b11.mono hb7.size)).trans hb9; clear L9 hgr9 hf9 hb9))
            go_roundw
            case rel => exact ⟨i + 1, !fv, G, E ++ [⟨1, rM, A2, n2, c2', rK, rX⟩], V, by omega, by go_num, by first | rfl | simp, by rw [HOS.out, HOZ.out]; exact T9, HVS, HFU, Lib.hid (by rw [HOS.out, HOZ.out, List.length_append]; have := HLN.out; simp; omega), hb12⟩
            case measure => simp [intOf]; omega
          · have hrq : rq = 2 := hrq
            subst hrq
            go_wp2_with (first | (go_at_call 81; refine (HMD.out _ I5).mono ?_; rintro x w2 ⟨A2, n2, c2', rfl, J2, hb, hfr⟩; have b9 := below_alloc w2 (.cells #[.int .i64 2, .int .i64 rM, .slice A2 n2 c2', .int .i64 rK] 56); have hx := below_step hb b9; have T6 := T5.step hx; have hb6 := hb5.trans (hx.mono hb5.size); have J6 := J2.step b9; have R6 := (FreshRow.ok hfr HSZ5.out).step b9; have Z6 := CBox.new w2 2 rM A2 n2 c2' rK; have z0 := Z6.c0; have z1 := Z6.c1; have z2 := Z6.c2; have z3 := Z6.c3; have HN2 := Lib.hid (show n2 = en from J2.len.symm.trans HXL.out); have hsz6 : w.heap.size ≤ (w2.alloc (.cells #[.int .i64 2, .int .i64 rM, .slice A2 n2 c2', .int .i64 rK] 56)).heap.size := hb6.size; have b10 := below_alloc (w2.alloc (.cells #[.int .i64 2, .int .i64 rM, .slice A2 n2 c2', .int .i64 rK] 56)) (.cells #[.int .i64 2, .int .i64 rM, .slice A2 n2 c2', .int .i64 rK] 56); have HROW := Lib.hid (show ((w2.alloc (.cells #[.int .i64 2, .int .i64 rM, .slice A2 n2 c2', .int .i64 rK] 56)).alloc (.cells #[.int .i64 2, .int .i64 rM, .slice A2 n2 c2', .int .i64 rK] 56)).heap[w2.heap.size + 1]? = some (.cells (CEl.cells ⟨2, rM, A2, n2, c2', rK, rX⟩).toArray 56 (0, 0)) from (by have h9 := heap_alloc_new (w2.alloc (.cells #[.int .i64 2, .int .i64 rM, .slice A2 n2 c2', .int .i64 rK] 56)) (.cells #[.int .i64 2, .int .i64 rM, .slice A2 n2 c2', .int .i64 rK] 56); rw [World.size_alloc] at h9; exact h9)); clear hb b9 hx hfr) | (go_at_call 58; refine (ref_cvalid 2 rM A2 n2 c2' rK rX _ J6).mono ?_; rintro x w3 ⟨rfl, hb⟩; rw [HVC.out]; have T7 := T6.step hb; have hb7 := hb6.trans (hb.mono hb6.size); have J7 := J6.step hb; have R7 := R6.step hb; have Z7 := Z6.step hb; clear z0 z1 z2 z3; have z0 := Z7.c0; have z1 := Z7.c1; have z2 := Z7.c2; have z3 := Z7.c3; have b11 := below_alloc w3 (.cells #[.int .i64 2, .int .i64 rM, .slice A2 n2 c2', .int .i64 rK] 56); have hsz7 : w.heap.size ≤ w3.heap.size := hb7.size; clear hb) | (at_builtin; refine wpList_append_cond3 rfl _ _ 34 rfl rfl rfl (T7.v.step b11) w3.heap.size ⟨2, rM, A2, n2, c2', rK, rX⟩ rfl (heap_alloc_new w3 (.cells #[.int .i64 2, .int .i64 rM, .slice A2 n2 c2', .int .i64 rK] 56)) (J7.step b11) (R7.step b11) HCV.out (hb7.trans (b11.mono hb7.size)).size ?_; intro g9 cap9 w9 L9 hgr9 hb9 hf9; have T9 := Three.addV (x := ⟨2, rM, A2, n2, c2', rK, rX⟩) (T7.step b11) rfl HN2.out L9 hgr9 hf9; have hb12 := (hb7.trans (b11.mono hb7.size)).trans hb9; clear L9 hgr9 hf9 hb9))
            go_roundw
            case rel => exact ⟨i + 1, !fv, G, E, V ++ [⟨2, rM, A2, n2, c2', rK, rX⟩], by omega, by go_num, by first | rfl | simp, by rw [HOS.out, HOZ.out]; exact T9, HVS, HFU, Lib.hid (by rw [HOS.out, HOZ.out, List.length_append]; have := HLN.out; simp; omega), hb12⟩
            case measure => simp [intOf]; omega
        · have HFU := Lib.hid (show true = !normFits en (ds.take (i + 1)) by
            rw [HFS.out]
            have h9 := HF.out
            cases hh : normFits en (ds.take i)
            · rfl
            · rw [hh] at h9; cases h9)
          rcases HZN.out.q with hrq | hrq | hrq
          · have hrq : rq = 0 := hrq
            subst hrq
            go_wp2_with (first | (go_at_call 81; refine (HMD.out _ I5).mono ?_; rintro x w2 ⟨A2, n2, c2', rfl, J2, hb, hfr⟩; have b9 := below_alloc w2 (.cells #[.int .i64 0, .int .i64 rM, .slice A2 n2 c2', .int .i64 rK] 56); have hx := below_step hb b9; have T6 := T5.step hx; have hb6 := hb5.trans (hx.mono hb5.size); have J6 := J2.step b9; have R6 := (FreshRow.ok hfr HSZ5.out).step b9; have Z6 := CBox.new w2 0 rM A2 n2 c2' rK; have z0 := Z6.c0; have z1 := Z6.c1; have z2 := Z6.c2; have z3 := Z6.c3; have HN2 := Lib.hid (show n2 = en from J2.len.symm.trans HXL.out); have hsz6 : w.heap.size ≤ (w2.alloc (.cells #[.int .i64 0, .int .i64 rM, .slice A2 n2 c2', .int .i64 rK] 56)).heap.size := hb6.size; have b10 := below_alloc (w2.alloc (.cells #[.int .i64 0, .int .i64 rM, .slice A2 n2 c2', .int .i64 rK] 56)) (.cells #[.int .i64 0, .int .i64 rM, .slice A2 n2 c2', .int .i64 rK] 56); have HROW := Lib.hid (show ((w2.alloc (.cells #[.int .i64 0, .int .i64 rM, .slice A2 n2 c2', .int .i64 rK] 56)).alloc (.cells #[.int .i64 0, .int .i64 rM, .slice A2 n2 c2', .int .i64 rK] 56)).heap[w2.heap.size + 1]? = some (.cells (CEl.cells ⟨0, rM, A2, n2, c2', rK, rX⟩).toArray 56 (0, 0)) from (by have h9 := heap_alloc_new (w2.alloc (.cells #[.int .i64 0, .int .i64 rM, .slice A2 n2 c2', .int .i64 rK] 56)) (.cells #[.int .i64 0, .int .i64 rM, .slice A2 n2 c2', .int .i64 rK] 56); rw [World.size_alloc] at h9; exact h9)); clear hb b9 hx hfr) | (at_builtin; refine wpList_append_cond3 rfl _ _ 34 rfl rfl rfl (T6.g.step b10) (w2.heap.size + 1) ⟨0, rM, A2, n2, c2', rK, rX⟩ rfl HROW.out (J6.step b10) (R6.step b10) HCG.out (hb6.trans (b10.mono hb6.size)).size ?_; intro g9 cap9 w9 L9 hgr9 hb9 hf9; have T9 := Three.addG (x := ⟨0, rM, A2, n2, c2', rK, rX⟩) (T6.step b10) rfl HN2.out L9 hgr9 hf9; have hb12 := (hb6.trans (b10.mono hb6.size)).trans hb9; clear L9 hgr9 hf9 hb9))
            go_roundw
            case rel => exact ⟨i + 1, true, G ++ [⟨0, rM, A2, n2, c2', rK, rX⟩], E, V, by omega, by go_num, by first | rfl | simp, by rw [HOS.out, HOZ.out]; exact T9, HVS, HFU, Lib.hid (by rw [HOS.out, HOZ.out, List.length_append]; have := HLN.out; simp; omega), hb12⟩
            case measure => simp [intOf]; omega
          · have hrq : rq = 1 := hrq
            subst hrq
            go_wp2_with (first | (go_at_call 81; refine (HMD.out _ I5).mono ?_; rintro x w2 ⟨A2, n2, c2', rfl, J2, hb, hfr⟩; have b9 := below_alloc w2 (.cells #[.int .i64 1, .int .i64 rM, .slice A2 n2 c2', .int .i64 rK] 56); have hx := below_step hb b9; have T6 := T5.step hx; have hb6 := hb5.trans (hx.mono hb5.size); have J6 := J2.step b9; have R6 := (FreshRow.ok hfr HSZ5.out).step b9; have Z6 := CBox.new w2 1 rM A2 n2 c2' rK; have z0 := Z6.c0; have z1 := Z6.c1; have z2 := Z6.c2; have z3 := Z6.c3; have HN2 := Lib.hid (show n2 = en from J2.len.symm.trans HXL.out); have hsz6 : w.heap.size ≤ (w2.alloc (.cells #[.int .i64 1, .int .i64 rM, .slice A2 n2 c2', .int .i64 rK] 56)).heap.size := hb6.size; have b10 := below_alloc (w2.alloc (.cells #[.int .i64 1, .int .i64 rM, .slice A2 n2 c2', .int .i64 rK] 56)) (.cells #[.int .i64 1, .int .i64 rM, .slice A2 n2 c2', .int .i64 rK] 56); have HROW := Lib.hid (show ((w2.alloc (.cells #[.int .i64 1, .int .i64 rM, .slice A2 n2 c2', .int .i64 rK] 56)).alloc (.cells #[.int .i64 1, .int .i64 rM, .slice A2 n2 c2', .int .i64 rK] 56)).heap[w2.heap.size + 1]? = some (.cells (CEl.cells ⟨1, rM, A2, n2, c2', rK, rX⟩).toArray 56 (0, 0)) from (by have h9 := heap_alloc_new (w2.alloc (.cells #[.int .i64 1, .int .i64 rM, .slice A2 n2 c2', .int .i64 rK] 56)) (.cells #[.int .i64 1, .int .i64 rM, .slice A2 n2 c2', .int .i64 rK] 56); rw [World.size_alloc] at h9; exact h9)); clear hb b9 hx hfr) | (at_builtin; refine wpList_append_cond3 rfl _ _ 34 rfl rfl rfl (T6.e.step b10) (w2.heap.size + 1) ⟨1, rM, A2, n2, c2', rK, rX⟩ rfl HROW.out (J6.step b10) (R6.step b10) HCE.out (hb6.trans (b10.mono hb6.size)).size ?_; intro g9 cap9 w9 L9 hgr9 hb9 hf9; have T9 := Three.addE (x := ⟨1, rM, A2, n2, c2', rK, rX⟩) (T6.step b10) rfl HN2.out L9 hgr9 hf9; have hb12 := (hb6.trans (b10.mono hb6.size)).trans hb9; clear L9 hgr9 hf9 hb9))
            go_roundw
            case rel => exact ⟨i + 1, true, G, E ++ [⟨1, rM, A2, n2, c2', rK, rX⟩], V, by omega, by go_num, by first | rfl | simp, by rw [HOS.out, HOZ.out]; exact T9, HVS, HFU, Lib.hid (by rw [HOS.out, HOZ.out, List.length_append]; have := HLN.out; simp; omega), hb12⟩
            case measure => simp [intOf]; omega
          · have hrq : rq = 2 := hrq
            subst hrq
            go_wp2_with (first | (go_at_call 81; refine (HMD.out _ I5).mono ?_; rintro x w2 ⟨A2, n2, c2', rfl, J2, hb, hfr⟩; have b9 := below_alloc w2 (.cells #[.int .i64 2, .int .i64 rM, .slice A2 n2 c2', .int .i64 rK] 56); have hx := below_step hb b9; have T6 := T5.step hx; have hb6 := hb5.trans (hx.mono hb5.size); have J6 := J2.step b9; have R6 := (FreshRow.ok hfr HSZ5.out).step b9; have Z6 := CBox.new w2 2 rM A2 n2 c2' rK; have z0 := Z6.c0; have z1 := Z6.c1; have z2 := Z6.c2; have z3 := Z6.c3; have HN2 := Lib.hid (show n2 = en from J2.len.symm.trans HXL.out); have hsz6 : w.heap.size ≤ (w2.alloc (.cells #[.int .i64 2, .int .i64 rM, .slice A2 n2 c2', .int .i64 rK] 56)).heap.size := hb6.size; have b10 := below_alloc (w2.alloc (.cells #[.int .i64 2, .int .i64 rM, .slice A2 n2 c2', .int .i64 rK] 56)) (.cells #[.int .i64 2, .int .i64 rM, .slice A2 n2 c2', .int .i64 rK] 56); have HROW := Lib.hid (show ((w2.alloc (.cells #[.int .i64 2, .int .i64 rM, .slice A2 n2 c2', .int .i64 rK] 56)).alloc (.cells #[.int .i64 2, .int .i64 rM, .slice A2 n2 c2', .int .i64 rK] 56)).heap[w2.heap.size + 1]? = some (.cells (CEl.cells ⟨2, rM, A2, n2, c2', rK, rX⟩).toArray 56 (0, 0)) from (by have h9 := heap_alloc_new (w2.alloc (.cells #[.int .i64 2, .int .i64 rM, .slice A2 n2 c2', .int .i64 rK] 56)) (.cells #[.int .i64 2, .int .i64 rM, .slice A2 n2 c2', .int .i64 rK] 56); rw [World.size_alloc] at h9; exact h9)); clear hb b9 hx hfr) | (at_builtin; refine wpList_append_cond3 rfl _ _ 34 rfl rfl rfl (T6.v.step b10) (w2.heap.size + 1) ⟨2, rM, A2, n2, c2', rK, rX⟩ rfl HROW.out (J6.step b10) (R6.step b10) HCV.out (hb6.trans (b10.mono hb6.size)).size ?_; intro g9 cap9 w9 L9 hgr9 hb9 hf9; have T9 := Three.addV (x := ⟨2, rM, A2, n2, c2', rK, rX⟩) (T6.step b10) rfl HN2.out L9 hgr9 hf9; have hb12 := (hb6.trans (b10.mono hb6.size)).trans hb9; clear L9 hgr9 hf9 hb9))
            go_roundw
            case rel => exact ⟨i + 1, true, G, E, V ++ [⟨2, rM, A2, n2, c2', rK, rX⟩], by omega, by go_num, by first | rfl | simp, by rw [HOS.out, HOZ.out]; exact T9, HVS, HFU, Lib.hid (by rw [HOS.out, HOZ.out, List.length_append]; have := HLN.out; simp; omega), hb12⟩
            case measure => simp [intOf]; omega
      · subst hs
        have HVS := Lib.hid (void_snoc (n := en) HDJ.out HV.out (by show (nf eq eM en exs eK).2.2.2.2 ≠ -1; rw [HR.out]; show (1 : Int) ≠ -1; decide))
        have HON := Lib.hid (open_not (n := en) (d := ⟨eq, eM, exs, eK⟩) (by show (nf eq eM en exs eK).2.2.2.2 ≠ 0; rw [HR.out]; show (1 : Int) ≠ 0; decide))
        go_wp2_with (go_at_call 81; refine (HMD.out _ I5).mono ?_; rintro x w2 ⟨A2, n2, c2', rfl, J2, hb, _⟩; have b9 := below_alloc w2 (.cells #[.int .i64 rq, .int .i64 rM, .slice A2 n2 c2', .int .i64 rK] 56); have hx := below_step hb b9; have T6 := T5.step hx; have hb6 := hb5.trans (hx.mono hb5.size); clear hb b9 hx)
        go_roundw
        case rel => exact ⟨i + 1, fu, G, E, V, by omega, by go_num, rfl, by rw [HOS.out, HON.out, List.append_nil]; exact T6, HVS, Lib.hid (by rw [HFS.out, HON.out]; simpa using HF.out), Lib.hid (by rw [HOS.out, HON.out, List.append_nil]; have := HLN.out; omega), hb6⟩
        case measure => simp [intOf]; omega
      · subst hs
        have HRV := Lib.hid (show pd = ([], true, 0) by
          rw [← HPD.out]
          unfold pieceD
          rw [if_pos (void_at HDJ.out (by show (nf eq eM en exs eK).2.2.2.2 = -1; rw [HR.out]))])
        go_wp2_with (go_at_call 81; refine (HMD.out _ I5).mono ?_; rintro x w2 ⟨A2, n2, c2', rfl, J2, hb, _⟩; have hx := below_step hb (below_alloc w2 (.cells #[.int .i64 rq, .int .i64 rM, .slice A2 n2 c2', .int .i64 rK] 56)); have hb6 := hb5.trans (hx.mono hb5.size); clear hb hx)
        go_ret3
        exact void_ret HRV.out rfl hb6
    · obtain rfl : i = m := by omega
      have HTK := Lib.hid (show ds.take i = ds from List.take_of_length_le (by rw [← HDS.out, List.length_map, HL.out]; exact Nat.le_refl _))
      rw [HTK.out] at hT HV HF HLN
      obtain ⟨outs, houts⟩ : ∃ outs, normOut n ds = outs := ⟨_, rfl⟩
      rw [houts] at hT HND HLN
      have HOUT := Lib.hid houts
      have HFU := Lib.hid HF.out
      have hi2 : i ≤ 1000 := hm
      have hT3 := hT.few
      have HGL := Lib.hid (show G.length ≤ 1000 by have := hT3.1; have := HLN.out; omega)
      have HGM := Lib.hid hT.gd
      have HQM := Lib.hid (show ∀ a ∈ G.map CEl.d, a.q = 0 ∧ a.M = 0 from fun a ha => by
        rw [HGM.out] at ha
        have h1 := List.mem_filter.1 ha
        have h2 : a.q = 0 := by simpa using h1.2
        exact ⟨h2, (HND.out a h1.1).M (by omega)⟩)
      have hgl : G.length ≤ 1000 := HGL.out
      clear houts hT3 hlt hi
      obtain ⟨A6, c6, rfl⟩ := hT.g.slice
      obtain ⟨A7, c7, rfl⟩ := hT.e.slice
      obtain ⟨A8, c8, rfl⟩ := hT.v.slice
      go_wp2
      go_loopw [13, 76] (fun u k ws => ∃ (i : Nat) (L : List CEl), i ≤ G.length ∧ k = .int .i64 i ∧ CL2 w.heap.size w.heap.size ws u L ∧ Hid (L.map CEl.d = ((G.map CEl.d).take i).foldl lowS []) ∧ Three n w.heap.size ws outs (.slice A6 G.length c6) (.slice A7 E.length c7) (.slice A8 V.length c8) G E V ∧ RowsApart u (.slice A6 G.length c6) ∧ RowsApart u (.slice A7 E.length c7) ∧ RowsApart u (.slice A8 V.length c8) ∧ Hid (∀ x ∈ L, x.n = n) ∧ Hid (L.length ≤ i) ∧ Below w.heap.size w ws) (fun _ k _ => G.length - (intOf k).toNat)
      case atStart => exact ⟨0, [], Nat.zero_le _, rfl, CL2.nil _ _ _, Lib.hid rfl, hT, RowsApart.nil _, RowsApart.nil _, RowsApart.nil _, Lib.hid (fun x h => nomatch h), Lib.hid (Nat.le_refl _), hbr⟩
      case round =>
        obtain ⟨i2, L, hi2, rfl, hU, HLD, hT2, r6, r7, r8, HLn, HLl, hbs⟩ := hrel
        by_cases hlt : i2 < G.length
        · obtain ⟨b, off, e, hA6, hblt, hej, hmem, hcs, hin⟩ := hT2.g.conds.2.at hlt
          subst hA6
          obtain ⟨x0, x1, x2, x3⟩ := hcs
          have HDJ := Lib.hid (show (G.map CEl.d)[i2]? = some e.d by rw [List.getElem?_map, hej]; rfl)
          have HEN := Lib.hid (HND.out e.d (by
            have h1 : e.d ∈ G.map CEl.d := List.mem_map_of_mem hmem
            rw [HGM.out] at h1
            exact (List.mem_filter.1 h1).1))
          have hen : e.n = n := hT2.gn e hmem
          have HMEM := Lib.hid hmem
          obtain ⟨eq, eM, eA, en, ec, eK, exs⟩ := e
          simp only at x0 x1 x2 x3 hin hen
          subst hen
          have HLS := Lib.hid (low_snoc HDJ.out)
          have hq1 : (i2 : Int) < (G.length : Nat) := by omega
          obtain ⟨A13, c13, rfl⟩ := hU.slice
          have b5 := below_alloc wr (.cells #[.int .i64 eq, .int .i64 eM, .slice eA en ec, .int .i64 eK] 56)
          have X1 := CBox.new wr eq eM eA en ec eK
          have I5 := hin.step b5
          have U5 := hU.step b5
          have T5 := hT2.step b5
          have hb5 := hbs.trans (b5.mono hbs.size)
          have HU := Lib.hid hU
          have HBL := Lib.hid (fun (g : Nat) (h : (Value.slice A13 L.length c13).ownBlock = some g) => hU.lt h)
          have hll : L.length ≤ 1000 := by have := HLl.out; omega
          have HLL := Lib.hid HLl.out
          clear hej hmem hin hU hT2 b5
          go_wp2
          generalize wr.alloc (.cells #[.int .i64 eq, .int .i64 eM, .slice eA en ec, .int .i64 eK] 56) = w5 at *
          clear x0 x1 x2 x3
          have HBX := Lib.hid X1.lt
          generalize wr.heap.size = bx at *
          go_loopw [16, 82] (fun f k wt => ∃ (j : Nat) (Lj : List CEl), j ≤ L.length ∧ k = .int .i64 j ∧ f = .bool (((L.map CEl.d).take j).any fun a => a.xs == exs) ∧ CL2 w.heap.size w.heap.size wt (.slice A13 L.length c13) Lj ∧ Hid (Lj.map CEl.d = lowAt (L.map CEl.d) ⟨eq, eM, exs, eK⟩ j) ∧ Three en w.heap.size wt outs (.slice (some ⟨b, off, none⟩) G.length c6) (.slice A7 E.length c7) (.slice A8 V.length c8) G E V ∧ Hid (∀ x ∈ Lj, x.n = en) ∧ CBox wt bx eq eM eA en ec eK ∧ IntsAt wt eA en exs ∧ Below w.heap.size w wt) (fun _ k _ => L.length - (intOf k).toNat)
          case atStart => exact ⟨0, L, Nat.zero_le _, rfl, rfl, U5, Lib.hid rfl, T5, HLn, X1, I5, hb5⟩
          case round =>
            obtain ⟨j, Lj, hj, rfl, rfl, hU6, HLD6, T6, HLn6, X6, I6, hbt⟩ := hrel
            by_cases hlt2 : j < L.length
            · have hq2 : (j : Int) < (L.length : Nat) := by omega
              have hll2 := hU6.conds.1
              obtain ⟨b2, off2, f, hA2, hblt2, hfj, hfm, hcs2, hin2⟩ := hU6.conds.2.at (j := j) (by omega)
              subst hA2
              have HO2 := Lib.hid (show off2 = 0 ∧ w.heap.size ≤ b2 by
                obtain ⟨g, c, hv, hN⟩ := hU6.own_at (j := j) (by omega)
                injection hv with h1 h2 h3
                simp only [Option.some.injEq, Addr.mk.injEq] at h1
                exact ⟨h1.2.1, by omega⟩)
              have HBB := Lib.hid (show b2 < bx from HBL.out b2 rfl)
              have HFJ := Lib.hid hfj
              have HLJ := Lib.hid (show (L.map CEl.d)[j]? = some f.d by
                have h1 : j < (L.map CEl.d).length := by rw [List.length_map]; exact hlt2
                have h2 := lowAt_get (d := ⟨eq, eM, exs, eK⟩) (List.getElem?_eq_getElem h1)
                rw [← HLD6.out, List.getElem?_map, hfj] at h2
                rw [List.getElem?_eq_getElem h1]
                exact h2.symm)
              have hfn : f.n = en := HLn6.out f hfm
              obtain ⟨fq, fM, fA, fn, fc, fK, fxs⟩ := f
              obtain ⟨y0, y1, y2, y3⟩ := hcs2
              simp only at y0 y1 y2 y3 hin2 hfn
              have hfn2 : en = fn := hfn.symm
              subst hfn2
              obtain ⟨o, ho⟩ : ∃ o, sidesI fxs exs = o := ⟨_, rfl⟩
              have HSI := Lib.hid (fun W (h1 : IntsAt W fA en fxs) (h2 : IntsAt W eA en exs) => (ref_sides fq fM fA en fc fK fxs eq eM eA ec eK exs W h1 h2 (fun y hy => by have h9 : -2305843009213693952 ≤ y ∧ y ≤ 2305843009213693952 := HEN.out.x y hy; omega)).mono fun x w' h => (show x = .returned (.int .i64 o) ∧ Below W.heap.size W w' from ⟨by rw [h.1, ho], by obtain ⟨q, os', rfl⟩ := h.2; exact below_grow q os'⟩))
              have HO := Lib.hid ho
              have c0 := X6.c0
              have c1 := X6.c1
              have c2 := X6.c2
              have c3 := X6.c3
              have HSD := Lib.hid (show (fun W : World => W.cell? ⟨b2, off2 + j * 4, none⟩ = some (.int .i64 fq) ∧ W.cell? ⟨b2, off2 + j * 4 + 1, none⟩ = some (.int .i64 fM) ∧ W.cell? ⟨b2, off2 + j * 4 + 2, none⟩ = some (.slice fA en fc) ∧ W.cell? ⟨b2, off2 + j * 4 + 3, none⟩ = some (.int .i64 fK) ∧ W.cell? ⟨bx, 0, none⟩ = some (.int .i64 eq) ∧ W.cell? ⟨bx, 1, none⟩ = some (.int .i64 eM) ∧ W.cell? ⟨bx, 2, none⟩ = some (.slice eA en ec) ∧ W.cell? ⟨bx, 3, none⟩ = some (.int .i64 eK)) wr.drew from ⟨by simpa using y0, by simpa using y1, by simpa using y2, by simpa using y3, by simpa using c0, by simpa using c1, by simpa using c2, by simpa using c3⟩)
              clear hfj hfm ho hll2
              by_cases hx1 : o = 1
              · subst hx1
                have HXE := Lib.hid (show fxs = exs by
                  have h9 := HO.out
                  unfold sidesI at h9
                  split at h9
                  · assumption
                  · split at h9 <;> cases h9)
                go_wp2
                go_region_held3 (fun W => W.cell? ⟨b2, off2 + j * 4, none⟩ = some (.int .i64 fq) ∧ W.cell? ⟨b2, off2 + j * 4 + 1, none⟩ = some (.int .i64 fM) ∧ W.cell? ⟨b2, off2 + j * 4 + 2, none⟩ = some (.slice fA en fc) ∧ W.cell? ⟨b2, off2 + j * 4 + 3, none⟩ = some (.int .i64 fK) ∧ W.cell? ⟨bx, 0, none⟩ = some (.int .i64 eq) ∧ W.cell? ⟨bx, 1, none⟩ = some (.int .i64 eM) ∧ W.cell? ⟨bx, 2, none⟩ = some (.slice eA en ec) ∧ W.cell? ⟨bx, 3, none⟩ = some (.int .i64 eK)) (first | with_reducible exact ⟨y0, y1, y2, y3, c0, c1, c2, c3⟩ | with_reducible exact HSD.out | with_reducible exact ⟨z0, z1, z2, z3, d0, d1, d2, d3⟩ | go_keep)
                  (first | (go_at_call 82; refine (HSI.out _ (hin2.step (Below.refl _ _).drew) (I6.step (Below.refl _ _).drew)).mono ?_; rintro x w6 ⟨rfl, hb⟩; have hx := below_step (Below.refl _ wr).drew hb; have X7 := X6.step hx; have U7 := hU6.step hx; have I7 := I6.step hx; have T7 := T6.step hx; have z0 := (hx.cell (p := ⟨b2, off2 + j * 4, none⟩) hblt2).trans y0; have z1 := (hx.cell (p := ⟨b2, off2 + j * 4 + 1, none⟩) hblt2).trans y1; have z2 := (hx.cell (p := ⟨b2, off2 + j * 4 + 2, none⟩) hblt2).trans y2; have z3 := (hx.cell (p := ⟨b2, off2 + j * 4 + 3, none⟩) hblt2).trans y3; have d0 := X7.c0; have d1 := X7.c1; have d2 := X7.c2; have d3 := X7.c3; have hbt7 := Lib.hid (hbt.trans (hx.mono hbt.size)); have hxs := hx.size; clear hb y0 y1 y2 y3 c0 c1 c2 c3))
                rename_i hHeld
                clear hHeld
                have hfz : w6.frozen? ⟨b2, off2 + j * 4 + 3, none⟩ = false := by
                  have h1 := HO2.out.1
                  subst h1
                  have h2 := U7.conds.1
                  have h3 := U7
                  rw [h2] at h3
                  exact World.ownsRow.frozenAt h3.own (0 + j * 4 + 3)
                go_wp2
                go_region
                go_wp2
                go_roundw
                case rel =>
                  obtain ⟨h0, hNb⟩ := HO2.out
                  subst h0
                  have hW : (⟨b2, 0 + j * 4 + 2 + 1, none⟩ : Addr) = ⟨b2, j * 4 + 3, none⟩ := by
                    rw [show 0 + j * 4 + 2 + 1 = j * 4 + 3 by omega]
                  rw [hW]
                  have hd := (Below.refl (w6.setCell ⟨b2, j * 4 + 3, none⟩ (.int .i64 (min fK eK))).heap.size (w6.setCell ⟨b2, j * 4 + 3, none⟩ (.int .i64 (min fK eK)))).drew
                  have UK := (U7.setK HFJ.out (min fK eK)).step hd
                  have TK := (T7.others U7 (grown_set w6 ⟨b2, j * 4 + 3, none⟩ (.int .i64 (min fK eK))) r6 r7 r8).step hd
                  have XK := (X7.step' (a := ⟨b2, j * 4 + 3, none⟩) (by have := HBB.out; show bx ≠ b2; omega) (.int .i64 (min fK eK))).step hd
                  have hdl := lowAt_set (d := ⟨eq, eM, exs, eK⟩) HLJ.out
                  have han := any_snoc (d := ⟨eq, eM, exs, eK⟩) HLJ.out
                  refine ⟨j + 1, _, by omega, by go_num, ?_, UK, Lib.hid ?_, TK, Lib.hid ?_, XK, TK.g.ints _ HMEM.out, (hbt7.out.setCell hNb _).drew⟩
                  · refine congrArg Value.bool ?_
                    refine Eq.trans ?_ han.symm
                    rw [show (CEl.d ⟨fq, fM, fA, en, fc, fK, fxs⟩).xs = exs from HXE.out]
                    simp
                  · rw [setK_d, hdl, HLD6.out]
                    unfold lowF
                    rw [if_pos (show (CEl.d ⟨fq, fM, fA, en, fc, fK, fxs⟩).xs = exs from HXE.out)]
                    rfl
                  · intro x hx
                    rcases List.mem_or_eq_of_mem_set hx with hx | rfl
                    · exact HLn6.out x hx
                    · rfl
                case measure => simp [intOf]; omega
              · have HXN := Lib.hid (show fxs ≠ exs from fun h => hx1 (by rw [← HO.out]; unfold sidesI; rw [if_pos h]))
                have HANY := Lib.hid (show (((L.map CEl.d).take j).any fun a => a.xs == exs) = (((L.map CEl.d).take (j + 1)).any fun a => a.xs == exs) by
                  have h9 := any_snoc (d := ⟨eq, eM, exs, eK⟩) HLJ.out
                  have h8 : ((fxs : List Int) == exs) = false := by simpa using HXN.out
                  rw [show (CEl.d ⟨fq, fM, fA, en, fc, fK, fxs⟩).xs = fxs from rfl, h8, Bool.or_false] at h9
                  exact h9.symm)
                have HLA := Lib.hid (show Lj.map CEl.d = lowAt (L.map CEl.d) ⟨eq, eM, exs, eK⟩ (j + 1) by rw [lowAt_skip (d := ⟨eq, eM, exs, eK⟩) (a := ⟨fq, fM, fxs, fK⟩) HLJ.out HXN.out]; exact HLD6.out)
                go_wp2
                go_region_held3 (fun W => W.cell? ⟨b2, off2 + j * 4, none⟩ = some (.int .i64 fq) ∧ W.cell? ⟨b2, off2 + j * 4 + 1, none⟩ = some (.int .i64 fM) ∧ W.cell? ⟨b2, off2 + j * 4 + 2, none⟩ = some (.slice fA en fc) ∧ W.cell? ⟨b2, off2 + j * 4 + 3, none⟩ = some (.int .i64 fK) ∧ W.cell? ⟨bx, 0, none⟩ = some (.int .i64 eq) ∧ W.cell? ⟨bx, 1, none⟩ = some (.int .i64 eM) ∧ W.cell? ⟨bx, 2, none⟩ = some (.slice eA en ec) ∧ W.cell? ⟨bx, 3, none⟩ = some (.int .i64 eK)) (first | with_reducible exact ⟨y0, y1, y2, y3, c0, c1, c2, c3⟩ | with_reducible exact HSD.out | with_reducible exact ⟨z0, z1, z2, z3, d0, d1, d2, d3⟩ | go_keep)
                  (first | (go_at_call 82; refine (HSI.out _ (hin2.step (Below.refl _ _).drew) (I6.step (Below.refl _ _).drew)).mono ?_; rintro x w6 ⟨rfl, hb⟩; have hx := below_step (Below.refl _ wr).drew hb; have X7 := X6.step hx; have U7 := hU6.step hx; have I7 := I6.step hx; have T7 := T6.step hx; have z0 := (hx.cell (p := ⟨b2, off2 + j * 4, none⟩) hblt2).trans y0; have z1 := (hx.cell (p := ⟨b2, off2 + j * 4 + 1, none⟩) hblt2).trans y1; have z2 := (hx.cell (p := ⟨b2, off2 + j * 4 + 2, none⟩) hblt2).trans y2; have z3 := (hx.cell (p := ⟨b2, off2 + j * 4 + 3, none⟩) hblt2).trans y3; have d0 := X7.c0; have d1 := X7.c1; have d2 := X7.c2; have d3 := X7.c3; have hbt7 := Lib.hid (hbt.trans (hx.mono hbt.size)); have hxs := hx.size; clear hb y0 y1 y2 y3 c0 c1 c2 c3))
                rename_i hHeld
                clear hHeld
                go_wp2
                go_roundw
                case rel => exact ⟨j + 1, Lj, by omega, by go_num, by first | exact congrArg Value.bool HANY.out | (simp only [HANY.out]), U7, HLA, T7, HLn6, X7, I7, hbt7.out⟩
                case measure => simp [intOf]; omega
            · obtain rfl : j = L.length := by omega
              have HAE := Lib.hid (lowAt_end (L.map CEl.d) ⟨eq, eM, exs, eK⟩)
              have hml : L.length = (L.map CEl.d).length := by rw [List.length_map]
              have htk : (L.map CEl.d).take L.length = L.map CEl.d := by rw [hml, List.take_length]
              have HLQ := Lib.hid (show Lj.map CEl.d = lowAt (L.map CEl.d) ⟨eq, eM, exs, eK⟩ (L.map CEl.d).length by rw [← hml]; exact HLD6.out)
              have HJL := Lib.hid (show Lj.length = L.length from hU6.conds.1.symm)
              have hI6 := T6.g.ints _ HMEM.out
              have hR6 := T6.g.rows _ HMEM.out
              simp only at hI6 hR6
              rw [htk]
              obtain ⟨fo, hfo⟩ : ∃ fo, ((L.map CEl.d).any fun a => a.xs == exs) = fo := ⟨_, rfl⟩
              rw [hfo]
              have HFO := Lib.hid hfo
              clear hml htk hfo
              cases fo
              · have c0 := X6.c0
                have c1 := X6.c1
                have c2 := X6.c2
                have c3 := X6.c3
                have HCL := Lib.hid (show Lj.length + 1 ≤ 100000 by have := HJL.out; omega)
                have HNX := Lib.hid (show Lj.map CEl.d ++ [⟨eq, eM, exs, eK⟩] = ((G.map CEl.d).take (i2 + 1)).foldl lowS [] by
                  rw [HLS.out, ← HLD.out, HLQ.out]
                  refine Eq.trans ?_ HAE.out.symm
                  rw [if_neg (by rw [HFO.out]; decide)])
                have b11 := below_alloc wr (.cells #[.int .i64 eq, .int .i64 eM, .slice eA en ec, .int .i64 eK] 56)
                go_wp2_with (at_builtin; refine wpList_append_cond3 rfl _ _ 34 rfl rfl rfl (hU6.step b11) wr.heap.size ⟨eq, eM, eA, en, ec, eK, exs⟩ rfl (heap_alloc_new wr (.cells #[.int .i64 eq, .int .i64 eM, .slice eA en ec, .int .i64 eK] 56)) (hI6.step b11) (hR6.step b11) HCL.out (hbt.trans (b11.mono hbt.size)).size ?_; intro g9 cap9 w9 L9 hgr9 hb9 hf9; have T9 := (T6.step b11).others (hU6.step b11) hgr9 r6 r7 r8; have a6 := r6.grown (T6.step b11).g (u' := .slice (some ⟨g9, 0, none⟩) (Lj.length + 1) cap9) rfl hf9; have a7 := r7.grown (T6.step b11).e (u' := .slice (some ⟨g9, 0, none⟩) (Lj.length + 1) cap9) rfl hf9; have a8 := r8.grown (T6.step b11).v (u' := .slice (some ⟨g9, 0, none⟩) (Lj.length + 1) cap9) rfl hf9; have hb12 := (hbt.trans (b11.mono hbt.size)).trans hb9; clear hgr9 hb9 hf9)
                go_roundw
                case rel => exact ⟨i2 + 1, Lj ++ [⟨eq, eM, eA, en, ec, eK, exs⟩], by omega, by go_num, L9, Lib.hid (by rw [List.map_append]; exact HNX.out), T9, a6, a7, a8, Lib.hid (fun x hx => by
                  rcases List.mem_append.1 hx with hx | hx
                  · exact HLn6.out x hx
                  · rw [List.mem_singleton.1 hx]), Lib.hid (by have h1 := HJL.out; have h2 := HLL.out; rw [List.length_append]; simp; omega), hb12⟩
                case measure => simp [intOf]; omega
              · have HNX := Lib.hid (show Lj.map CEl.d = ((G.map CEl.d).take (i2 + 1)).foldl lowS [] by
                  rw [HLS.out, ← HLD.out, HLQ.out]
                  refine Eq.trans ?_ HAE.out.symm
                  rw [if_pos HFO.out])
                go_wp2
                go_roundw
                case rel => exact ⟨i2 + 1, Lj, by omega, by go_num, hU6, HNX, T6, r6, r7, r8, HLn6, Lib.hid (by have h1 := HJL.out; have h2 := HLL.out; omega), hbt⟩
                case measure => simp [intOf]; omega
        · obtain rfl : i2 = G.length := by omega
          have htk : (G.map CEl.d).take G.length = G.map CEl.d := List.take_of_length_le (by rw [List.length_map]; exact Nat.le_refl _)
          have hLG := least_take HQM.out G.length
          have hLD : L.map CEl.d = (G.map CEl.d).foldl lowS [] := by have h9 := HLD.out; rw [htk] at h9; exact h9
          rw [htk, ← hLD, HGM.out] at hLG
          have HKO := Lib.hid (show ∀ d ∈ ds, KindOk d.q d.M ∧ d.xs.length = n from fun d hd => by
            rw [← HDS.out] at hd
            obtain ⟨e, he, rfl⟩ := List.mem_map.1 hd
            obtain ⟨h1, h2, _⟩ := HPRE.out e he
            exact ⟨h2, by rw [← h1]; exact (C0.ints e he).len⟩)
          have HNE := Lib.hid (show ∀ d ∈ outs, NormE n d from fun d hd => by
            have hd2 := hd
            rw [← HOUT.out] at hd2
            obtain ⟨z, hz, h2⟩ := List.mem_flatMap.1 hd2
            exact open_norm (HKO.out z hz).1 (HKO.out z hz).2 h2 (HND.out d hd))
          obtain ⟨LD, hLd⟩ : ∃ LD, L.map CEl.d = LD := ⟨_, rfl⟩
          rw [hLd] at hLG hLD
          have HLE := Lib.hid (show LowE n outs LD from ⟨LeastG.of hLG, hLG.one, fun d hd => HNE.out d (List.mem_filter.1 (hLG.mem d hd)).1⟩)
          have HLd := Lib.hid hLd
          have HVD := Lib.hid (fun hV : VoidP outs LD => show pd = ([], true, 0) from by
            rw [← HPD.out]
            have h9 := HND.out
            rw [← HOUT.out] at h9 hV
            have h8 := HLE.out.of
            rw [← HOUT.out] at h8
            exact piece_ref_void HKO.out h9 HV.out h8 hV)
          have HLL := Lib.hid (show L.length ≤ 1000 by have := HLl.out; have := HGL.out; omega)
          have HEL := Lib.hid (show E.length ≤ 1000 by have h1 := hT2.few; have := h1.2.1; have := HLN.out; omega)
          have HED := Lib.hid hT2.ed
          have HVDD := Lib.hid hT2.vd
          have HSUM := Lib.hid (show L.length + E.length + V.length ≤ 1000 by
            have h1 := kinds_sum outs
            rw [← hT2.gd, ← hT2.ed, ← hT2.vd] at h1
            simp only [List.length_map] at h1
            have h2 := least_len HQM.out
            rw [← hLD, ← hLd, List.length_map, List.length_map] at h2
            have := HLN.out
            omega)
          have HLN2 := Lib.hid (show LD.length = L.length by rw [← hLd, List.length_map])
          obtain ⟨A13, c13, rfl⟩ := hU.slice
          have hmk := make_bools L.length (by have := HLL.out; omega)
          have P0 := PSt.start hT2 hU r7 r8 HLn.out hbs.size L.length
          have hbw := hbs.alloc hbs.size (.cells ((falses L.length).map Value.bool).toArray 4)
          clear htk hLG hLD hLd hT2 hU r6 r7 r8 HLn HLl HLD hlt hi2
          go_wp2
          generalize wr.alloc (.cells ((falses L.length).map Value.bool).toArray 4) = w7 at *
          have HG7 := Lib.hid P0.b.lt
          generalize wr.heap.size = g7 at *
          clear hmk
          go_loopw [7, 120] (fun u k ws => ∃ (i : Nat) (E2 : List CEl) (gs : List Bool), i ≤ L.length ∧ k = .int .i64 i ∧ PSt n w.heap.size ws (.slice A13 L.length c13) u (.slice A8 V.length c8) L E2 V g7 gs ∧ Hid (Pairs LD (outs.filter fun d => d.q == 1) i (i + 1) gs (E2.map CEl.d)) ∧ Below w.heap.size w ws) (fun _ k _ => L.length - (intOf k).toNat)
          case atStart => exact ⟨0, E, falses L.length, Nat.zero_le _, rfl, P0, Lib.hid (by rw [HED.out, ← HLN2.out]; exact Pairs.zero _ _), hbw⟩
          case round =>
            obtain ⟨i, E2, gs, hi, rfl, hP, HPA, hbs2⟩ := hrel
            by_cases hlt : i < L.length
            · obtain ⟨b, off, e, hA13, hblt, hej, hmem, hcs, hin⟩ := hP.l.conds.2.at hlt
              subst hA13
              obtain ⟨x0, x1, x2, x3⟩ := hcs
              have HDI := Lib.hid (show LD[i]? = some e.d by rw [← HLd.out, List.getElem?_map, hej]; rfl)
              have hen : e.n = n := hP.ln e hmem
              have HMA := Lib.hid hmem
              obtain ⟨eq, eM, eA, en, ec, eK, exs⟩ := e
              simp only at x0 x1 x2 x3 hin hen
              subst hen
              have HEA := Lib.hid (HLE.out.norm _ (List.mem_of_getElem? HDI.out)).nd
              have HLA := Lib.hid (HLE.out.lead _ (List.mem_of_getElem? HDI.out))
              have hq1 : (i : Int) < (L.length : Nat) := by omega
              have hll : L.length ≤ 1000 := HLL.out
              have hq2 : IntKind.i64.wrap ((i : Int) + 1) = (i : Int) + 1 := IntWalk.i64_in _ (by omega)
              have b5 := below_alloc wr (.cells #[.int .i64 eq, .int .i64 eM, .slice eA en ec, .int .i64 eK] 56)
              have X1 := CBox.new wr eq eM eA en ec eK
              have P5 := hP.step b5
              have hb5 := hbs2.trans (b5.mono hbs2.size)
              have HGX := Lib.hid hP.b.lt
              have HNR0 := Lib.hid (show _ ≠ some wr.heap.size from fun e => absurd (hP.e.lt e) (Nat.lt_irrefl _))
              clear hej hmem hin hP b5
              go_wp2
              generalize wr.alloc (.cells #[.int .i64 eq, .int .i64 eM, .slice eA en ec, .int .i64 eK] 56) = w5 at *
              clear x0 x1 x2 x3 hq2
              have HBX := Lib.hid X1.lt
              generalize wr.heap.size = bx at *
              go_loopw [7, 21] (fun u k wt => ∃ (j : Nat) (E3 : List CEl) (gs2 : List Bool), i + 1 ≤ j ∧ j ≤ L.length ∧ k = .int .i64 j ∧ PSt en w.heap.size wt (.slice (some ⟨b, off, none⟩) L.length c13) u (.slice A8 V.length c8) L E3 V g7 gs2 ∧ Hid (Pairs LD (outs.filter fun d => d.q == 1) i j gs2 (E3.map CEl.d)) ∧ CBox wt bx eq eM eA en ec eK ∧ Hid (u.ownBlock ≠ some bx) ∧ Below w.heap.size w wt) (fun _ k _ => L.length - (intOf k).toNat)
              case atStart => exact ⟨i + 1, E2, gs, Nat.le_refl _, by omega, by first | rfl | simp, P5, HPA, X1, HNR0, hb5⟩
              case round =>
                obtain ⟨j, E3, gs2, hij, hj, rfl, P6, HPB, X6, HNR, hbt6⟩ := hrel
                by_cases hlt2 : j < L.length
                · obtain ⟨b2, off2, f, hA2, hblt2, hfj, hfm, hcs2, hin2⟩ := P6.l.conds.2.at hlt2
                  cases hA2
                  obtain ⟨y0, y1, y2, y3⟩ := hcs2
                  have HDJ := Lib.hid (show LD[j]? = some f.d by rw [← HLd.out, List.getElem?_map, hfj]; rfl)
                  have hfn : f.n = en := P6.ln f hfm
                  obtain ⟨fq, fM, fA, fn, fc, fK, fxs⟩ := f
                  simp only at y0 y1 y2 y3 hin2 hfn
                  have hfn2 : en = fn := hfn.symm
                  subst hfn2
                  have HEB := Lib.hid (HLE.out.norm _ (List.mem_of_getElem? HDJ.out)).nd
                  have hq2 : (j : Int) < (L.length : Nat) := by omega
                  have b6 := below_alloc wr (.cells #[.int .i64 fq, .int .i64 fM, .slice fA en fc, .int .i64 fK] 56)
                  replace P6 := P6.step b6
                  replace X6 := X6.step b6
                  replace hbt6 := hbt6.trans (b6.mono hbt6.size)
                  have Y6 := CBox.new wr fq fM fA en fc fK
                  have I6 := P6.l.ints _ HMA.out
                  have J6 := hin2.step b6
                  simp only at I6
                  obtain ⟨o, ho⟩ : ∃ o, sidesI exs fxs = o := ⟨_, rfl⟩
                  have HSI := Lib.hid (fun W (h1 : IntsAt W eA en exs) (h2 : IntsAt W fA en fxs) => (ref_sides eq eM eA en ec eK exs fq fM fA fc fK fxs W h1 h2 (fun y hy => by have h9 : -2305843009213693952 ≤ y ∧ y ≤ 2305843009213693952 := HEB.out.x y hy; omega)).mono fun x w' h => (show x = .returned (.int .i64 o) ∧ Below W.heap.size W w' from ⟨by rw [h.1, ho], by obtain ⟨q, os', rfl⟩ := h.2; exact below_grow q os'⟩))
                  have HO := Lib.hid ho
                  have c0 := X6.c0
                  have c1 := X6.c1
                  have c2 := X6.c2
                  have c3 := X6.c3
                  have d0 := Y6.c0
                  have d1 := Y6.c1
                  have d2 := Y6.c2
                  have d3 := Y6.c3
                  clear hfj hfm hin2 ho b6
                  by_cases ho1 : o = -1
                  · subst ho1
                    have HOP := Lib.hid (show OppAt LD i j ⟨eq, eM, exs, eK⟩ ⟨fq, fM, fxs, fK⟩ from ⟨by omega, HDI.out, HDJ.out, (sides_opp HLA.out).1 HO.out⟩)
                    have hw : IntKind.i64.wrap (eK + fK) = eK + fK := IntWalk.i64_in _ (by
                      have h1 : -2305843009213693952 ≤ eK ∧ eK ≤ 2305843009213693952 := HEA.out.k
                      have h2 : -2305843009213693952 ≤ fK ∧ fK ≤ 2305843009213693952 := HEB.out.k
                      omega)
                    rcases (show eK + fK < 0 ∨ eK + fK = 0 ∨ 0 < eK + fK by omega) with hsum | hsum | hsum
                    · have HR := Lib.hid (HVD.out (.inl (va_at HLE.out HOP.out hsum)))
                      go_wp2_with (first | (go_at_call 82; refine (HSI.out _ I6 J6).mono ?_; rintro x w7 ⟨rfl, hb⟩; have P7 := P6.step hb; have X7 := X6.step hb; have Y7 := Y6.step hb; have hbt7 := hbt6.trans (hb.mono hbt6.size); clear c0 c1 c2 c3 d0 d1 d2 d3; have c0 := X7.c0; have c1 := X7.c1; have c2 := X7.c2; have c3 := X7.c3; have d0 := Y7.c0; have d1 := Y7.c1; have d2 := Y7.c2; have d3 := Y7.c3; clear hb))
                      go_ret3
                      exact void_ret HR.out rfl hbt7
                    · obtain ⟨rX, hrX⟩ : ∃ rX, sgnL (signI exs) exs = rX := ⟨_, rfl⟩
                      obtain ⟨rK, hrK⟩ : ∃ rK, signI exs * eK = rK := ⟨_, rfl⟩
                      have HTI := Lib.hid (show Pairs LD (outs.filter fun d => d.q == 1) i (j + 1) ((gs2.set i true).set j true) (E3.map CEl.d ++ [⟨1, 0, rX, rK⟩]) from by rw [← hrX, ← hrK]; exact HPB.out.tight HLE.out HOP.out hsum)
                      have HMD := Lib.hid (fun W (I : IntsAt W eA en exs) => (show Calls Tryz.prog 81 #[condV 1 0 eA en ec eK] W fun e w' => NfRet W e w' (1, 0, rX, rK, 0) from by
                        have h9 := ref_made 1 0 eA en ec (by omega) eK exs (.inr (.inl rfl)) (by have h1 : -2305843009213693952 ≤ eK ∧ eK ≤ 2305843009213693952 := HEA.out.k; omega) (fun y hy => by have h9 : -2305843009213693952 ≤ y ∧ y ≤ 2305843009213693952 := HEA.out.x y hy; omega) W I
                        rw [nf_unit (n := en) (xs := exs) HEA.out.len (show gcdA 0 exs = 1 from HLE.out.gcd _ (List.mem_of_getElem? HDI.out)), hrX, hrK] at h9
                        exact h9))
                      have HXL := Lib.hid (show rX.length = en by rw [← hrX, sgn_len]; exact HEA.out.len)
                      have hs0 : (eK + fK == 0) = true := by rw [hsum]; rfl
                      have hs1 : ¬ (eK + fK < 0) := by omega
                      have HGL2 := Lib.hid (show gs2.length = L.length by rw [HPB.out.len]; exact HLN2.out)
                      have HGI := Lib.hid (show i < gs2.length by have := HGL2.out; omega)
                      have HGJ := Lib.hid (show j < (gs2.set i true).length by rw [List.length_set]; have := HGL2.out; omega)
                      have HNG := Lib.hid (show bx ≠ g7 by have := HGX.out; omega)
                      have HCE := Lib.hid (show E3.length + 1 ≤ 100000 by
                        have h1 := HPB.out.few.1
                        rw [List.length_map, ← HED.out, List.length_map] at h1
                        have := HEL.out
                        omega)
                      clear hrX hrK
                      go_wp2_with (first | (go_at_call 82; refine (HSI.out _ I6 J6).mono ?_; rintro x w7 ⟨rfl, hb⟩; have P7 := P6.step hb; have X7 := X6.step hb; have Y7 := Y6.step hb; have hbt7 := hbt6.trans (hb.mono hbt6.size); clear c0 c1 c2 c3 d0 d1 d2 d3; have c0 := X7.c0; have c1 := X7.c1; have c2 := X7.c2; have c3 := X7.c3; have d0 := Y7.c0; have d1 := Y7.c1; have d2 := Y7.c2; have d3 := Y7.c3; clear hb; have t0 := P7.b.cell HGI.out; have f0 := P7.b.free i; have P8 := P7.set i true; have t1 := P8.b.cell (j := j) HGJ.out; have f1 := P8.b.free j; have P9 := P8.set j true; have X9 := (X7.step' (a := ⟨g7, i, none⟩) HNG.out (.bool true)).step' (a := ⟨g7, j, none⟩) HNG.out (.bool true); have e0 := X9.c0; have e1 := X9.c1; have e2 := X9.c2; have e3 := X9.c3; have hbt9 := (hbt7.setCell (p := ⟨g7, i, none⟩) P7.hg (.bool true)).setCell (p := ⟨g7, j, none⟩) P7.hg (.bool true); have I9 := P9.l.ints _ HMA.out) | (go_at_call 81; refine (HMD.out _ I9).mono ?_; rintro x w10 ⟨A10, n10, c10, rfl, J10, hb, hfr⟩; have HN10 := Lib.hid (show n10 = en from J10.len.symm.trans HXL.out); have b9 := below_alloc w10 (.cells #[.int .i64 1, .int .i64 0, .slice A10 n10 c10, .int .i64 rK] 56); have hx := below_step hb b9; have P10 := P9.step hx; have X10 := X9.step hx; have hbt10 := hbt9.trans (hx.mono hbt9.size); have R10 := (FreshRow.ok hfr hbt9.size).step b9; have J11 := J10.step b9; have Z10 := CBox.new w10 1 0 A10 n10 c10 rK; have z0 := Z10.c0; have z1 := Z10.c1; have z2 := Z10.c2; have z3 := Z10.c3; have b10 := below_alloc (w10.alloc (.cells #[.int .i64 1, .int .i64 0, .slice A10 n10 c10, .int .i64 rK] 56)) (.cells #[.int .i64 1, .int .i64 0, .slice A10 n10 c10, .int .i64 rK] 56); have HROW := Lib.hid (show ((w10.alloc (.cells #[.int .i64 1, .int .i64 0, .slice A10 n10 c10, .int .i64 rK] 56)).alloc (.cells #[.int .i64 1, .int .i64 0, .slice A10 n10 c10, .int .i64 rK] 56)).heap[w10.heap.size + 1]? = some (.cells (CEl.cells ⟨1, 0, A10, n10, c10, rK, rX⟩).toArray 56 (0, 0)) from (by have h9 := heap_alloc_new (w10.alloc (.cells #[.int .i64 1, .int .i64 0, .slice A10 n10 c10, .int .i64 rK] 56)) (.cells #[.int .i64 1, .int .i64 0, .slice A10 n10 c10, .int .i64 rK] 56); rw [World.size_alloc] at h9; exact h9)); clear hb hx hfr b9) | (at_builtin; refine wpList_append_cond3 rfl _ _ 34 rfl rfl rfl (P10.e.step b10) (w10.heap.size + 1) ⟨1, 0, A10, n10, c10, rK, rX⟩ rfl HROW.out (J11.step b10) (R10.step b10) HCE.out (hbt10.trans (b10.mono hbt10.size)).size ?_; intro g12 cap12 w12 L12 hgr12 hb12 hf12; have P12 := PSt.put (x := ⟨1, 0, A10, n10, c10, rK, rX⟩) (P10.step b10) HN10.out L12 hgr12 hf12; have X12 : CBox w12 bx eq eM eA en ec eK := (hgr12.block bx (X10.step b10).lt (fun e => HNR.out e.symm)).trans (X10.step b10); have HNR12 := Lib.hid (show (Value.slice (some ⟨g12, 0, none⟩) (E3.length + 1) cap12).ownBlock ≠ some bx from own_new hf12 HNR.out (X10.step b10).lt); have hbt12 := (hbt10.trans (b10.mono hbt10.size)).trans hb12; clear L12 hgr12 hb12 hf12))
                      go_roundw
                      case rel => exact ⟨j + 1, E3 ++ [⟨1, 0, A10, n10, c10, rK, rX⟩], (gs2.set i true).set j true, by omega, by omega, by go_num, P12, Lib.hid (by rw [List.map_append]; exact HTI.out), X12, HNR12, hbt12⟩
                      case measure => simp [intOf]; omega
                    · have hs0 : (eK + fK == 0) = false := by simp; omega
                      have hs1 : ¬ (eK + fK < 0) := by omega
                      have HSK := Lib.hid (show Pairs LD (outs.filter fun d => d.q == 1) i (j + 1) gs2 (E3.map CEl.d) from HPB.out.skip (fun a b h => by
                        have h1 := h.2.1
                        have h2 := h.2.2.1
                        rw [HDI.out] at h1
                        rw [HDJ.out] at h2
                        cases h1; cases h2
                        exact hsum))
                      go_wp2_with (first | (go_at_call 82; refine (HSI.out _ I6 J6).mono ?_; rintro x w7 ⟨rfl, hb⟩; have P7 := P6.step hb; have X7 := X6.step hb; have Y7 := Y6.step hb; have hbt7 := hbt6.trans (hb.mono hbt6.size); clear c0 c1 c2 c3 d0 d1 d2 d3; have c0 := X7.c0; have c1 := X7.c1; have c2 := X7.c2; have c3 := X7.c3; have d0 := Y7.c0; have d1 := Y7.c1; have d2 := Y7.c2; have d3 := Y7.c3; clear hb))
                      go_roundw
                      case rel => exact ⟨j + 1, E3, gs2, by omega, by omega, by go_num, P7, HSK, X7, HNR, hbt7⟩
                      case measure => simp [intOf]; omega
                  · have HSK := Lib.hid (show Pairs LD (outs.filter fun d => d.q == 1) i (j + 1) gs2 (E3.map CEl.d) from HPB.out.skip (fun a b h => by
                      have h1 := h.2.1
                      have h2 := h.2.2.1
                      rw [HDI.out] at h1
                      rw [HDJ.out] at h2
                      cases h1; cases h2
                      exact absurd (HO.out.symm.trans ((sides_opp HLA.out).2 h.2.2.2)) ho1))
                    go_wp2_with (first | (go_at_call 82; refine (HSI.out _ I6 J6).mono ?_; rintro x w7 ⟨rfl, hb⟩; have P7 := P6.step hb; have X7 := X6.step hb; have Y7 := Y6.step hb; have hbt7 := hbt6.trans (hb.mono hbt6.size); clear c0 c1 c2 c3 d0 d1 d2 d3; have c0 := X7.c0; have c1 := X7.c1; have c2 := X7.c2; have c3 := X7.c3; have d0 := Y7.c0; have d1 := Y7.c1; have d2 := Y7.c2; have d3 := Y7.c3; clear hb))
                    go_roundw
                    case rel => exact ⟨j + 1, E3, gs2, by omega, by omega, by go_num, P7, HSK, X7, HNR, hbt7⟩
                    case measure => simp [intOf]; omega
                · obtain rfl : j = L.length := by omega
                  have HNX := Lib.hid (show Pairs LD (outs.filter fun d => d.q == 1) (i + 1) (i + 1 + 1) gs2 (E3.map CEl.d) from by
                    have h9 := HPB.out
                    rw [← HLN2.out] at h9
                    exact h9.next)
                  go_wp2
                  go_roundw
                  case rel => exact ⟨i + 1, E3, gs2, by omega, by go_num, P6, HNX, hbt6⟩
                  case measure => simp [intOf]; omega
            · obtain rfl : i = L.length := by omega
              have HG0 := Lib.hid (show Gone0 outs LD gs (E2.map CEl.d) from by
                have h9 := HPA.out
                rw [← HLN2.out] at h9
                exact h9.done HLE.out)
              have HE2 := Lib.hid (show E2.length ≤ E.length + L.length by
                have h9 := HPA.out
                rw [← HLN2.out] at h9
                have h1 := h9.size
                rw [List.length_map, ← HED.out, List.length_map, HLN2.out] at h1
                exact h1)
              have he2 : E2.length ≤ 1000 := by have := HE2.out; have := HSUM.out; omega
              have HEQ := Lib.hid (show ∀ d ∈ E2.map CEl.d, NormE n d ∧ d.q = 1 from fun d hd => eqp_norm HNE.out HLE.out ((HG0.out.eqs d).1 hd))
              obtain ⟨A17, c17, rfl⟩ := hP.e.slice
              have hll : L.length ≤ 1000 := HLL.out
              clear hlt hi HPA
              go_wp2
              go_loopw [177] (fun k ws => ∃ (i : Nat) (gs2 : List Bool), i ≤ E2.length ∧ k = .int .i64 i ∧ PSt n w.heap.size ws (.slice A13 L.length c13) (.slice A17 E2.length c17) (.slice A8 V.length c8) L E2 V g7 gs2 ∧ Hid (Meets LD (E2.map CEl.d) i 0 gs2) ∧ Hid (OneK (E2.map CEl.d) i) ∧ Below w.heap.size w ws) (fun k _ => E2.length - (intOf k).toNat)
              case atStart => exact ⟨0, gs, Nat.zero_le _, rfl, hP, Lib.hid (Meets.zero HG0.out), Lib.hid (OneK.zero _), hbs2⟩
              case round =>
                obtain ⟨i, gs2, hi, rfl, hP2, HME, HOK, hbs3⟩ := hrel
                by_cases hlt : i < E2.length
                · obtain ⟨b, off, e, hA17, hblt, hej, hmem, hcs, hin⟩ := hP2.e.conds.2.at hlt
                  have hcap : (E2.length : Int) ≤ c17 := by
                    rcases cl_shape hP2.e with ⟨_, _, h⟩ | ⟨_, _, _, h⟩
                    · rw [h] at hlt; exact absurd hlt (Nat.not_lt_zero _)
                    · omega
                  subst hA17
                  obtain ⟨x0, x1, x2, x3⟩ := hcs
                  have HDI := Lib.hid (show (E2.map CEl.d)[i]? = some e.d by rw [List.getElem?_map, hej]; rfl)
                  have hen : e.n = n := hP2.en e hmem
                  have HMA := Lib.hid hmem
                  obtain ⟨eq, eM, eA, en, ec, eK, exs⟩ := e
                  simp only at x0 x1 x2 x3 hin hen
                  subst hen
                  have HEA := Lib.hid (HEQ.out _ (List.mem_of_getElem? HDI.out))
                  have hq1 : (i : Int) < (E2.length : Nat) := by omega
                  have hq3 : (i : Int) ≤ c17 := by omega
                  have b5 := below_alloc wr (.cells #[.int .i64 eq, .int .i64 eM, .slice eA en ec, .int .i64 eK] 56)
                  have X1 := CBox.new wr eq eM eA en ec eK
                  have P5 := hP2.step b5
                  have HGX := Lib.hid hP2.b.lt
                  have hb5 := hbs3.trans (b5.mono hbs3.size)
                  clear hej hmem hin hP2 b5
                  go_wp2
                  generalize wr.alloc (.cells #[.int .i64 eq, .int .i64 eM, .slice eA en ec, .int .i64 eK] 56) = w5 at *
                  clear x0 x1 x2 x3
                  have HBX := Lib.hid X1.lt
                  generalize wr.heap.size = bx at *
                  go_loopw [186] (fun k wt => ∃ j : Nat, j ≤ i ∧ k = .int .i64 j ∧ PSt en w.heap.size wt (.slice A13 L.length c13) (.slice (some ⟨b, off, none⟩) E2.length c17) (.slice A8 V.length c8) L E2 V g7 gs2 ∧ Hid (OneAt (E2.map CEl.d) i j ⟨eq, eM, exs, eK⟩) ∧ CBox wt bx eq eM eA en ec eK ∧ Below w.heap.size w wt) (fun k _ => i - (intOf k).toNat)
                  case atStart => exact ⟨0, Nat.zero_le _, by first | rfl | simp, P5, Lib.hid (OneAt.zero _ _ _), X1, hb5⟩
                  case round =>
                    clear P5 X1 hb5
                    obtain ⟨j, hj, rfl, P6, HOA, X6, hbt6⟩ := hrel
                    by_cases hlt2 : j < i
                    · obtain ⟨b2, off2, f, hA2, hblt2, hfj, hfm, hcs2, hin2⟩ := P6.e.conds.2.at (j := j) (by omega)
                      cases hA2
                      obtain ⟨y0, y1, y2, y3⟩ := hcs2
                      have HDJ := Lib.hid (show (E2.map CEl.d)[j]? = some f.d by rw [List.getElem?_map, hfj]; rfl)
                      have hfn : f.n = en := P6.en f hfm
                      obtain ⟨fq, fM, fA, fn, fc, fK, fxs⟩ := f
                      simp only at y0 y1 y2 y3 hin2 hfn
                      have hfn2 : en = fn := hfn.symm
                      subst hfn2
                      have HEB := Lib.hid (HEQ.out _ (List.mem_of_getElem? HDJ.out)).1.nd
                      have hq2 : (j : Int) < (i : Nat) := by omega
                      have b6 := below_alloc wr (.cells #[.int .i64 fq, .int .i64 fM, .slice fA en fc, .int .i64 fK] 56)
                      replace P6 := P6.step b6
                      replace X6 := X6.step b6
                      replace hbt6 := hbt6.trans (b6.mono hbt6.size)
                      have Y6 := CBox.new wr fq fM fA en fc fK
                      have I6 := P6.e.ints _ HMA.out
                      have J6 := hin2.step b6
                      simp only at I6
                      obtain ⟨o, ho⟩ : ∃ o, sidesI exs fxs = o := ⟨_, rfl⟩
                      have HSI := Lib.hid (fun W (h1 : IntsAt W eA en exs) (h2 : IntsAt W fA en fxs) => (ref_sides eq eM eA en ec eK exs fq fM fA fc fK fxs W h1 h2 (fun y hy => by have h9 : -2305843009213693952 ≤ y ∧ y ≤ 2305843009213693952 := HEB.out.x y hy; omega)).mono fun x w' h => (show x = .returned (.int .i64 o) ∧ Below W.heap.size W w' from ⟨by rw [h.1, ho], by obtain ⟨q, os', rfl⟩ := h.2; exact below_grow q os'⟩))
                      have HO := Lib.hid ho
                      have c0 := X6.c0
                      have c1 := X6.c1
                      have c2 := X6.c2
                      have c3 := X6.c3
                      have d0 := Y6.c0
                      have d1 := Y6.c1
                      have d2 := Y6.c2
                      have d3 := Y6.c3
                      clear hfj hfm hin2 ho b6
                      by_cases ho1 : o = 1
                      · subst ho1
                        have HXE := Lib.hid (show exs = fxs by
                          have h9 := HO.out
                          unfold sidesI at h9
                          split at h9
                          · assumption
                          · split at h9 <;> cases h9)
                        by_cases hk : eK = fK
                        · have hk2 : (eK == fK) = true := by simpa using hk
                          have HOB := Lib.hid (show OneAt (E2.map CEl.d) i (j + 1) ⟨eq, eM, exs, eK⟩ from HOA.out.step HDJ.out (fun _ => hk))
                          clear hk
                          go_wp2_with (first | (go_at_call 82; refine (HSI.out _ I6 J6).mono ?_; rintro x w7 ⟨rfl, hb⟩; have P7 := P6.step hb; have X7 := X6.step hb; have Y7 := Y6.step hb; have hbt7 := hbt6.trans (hb.mono hbt6.size); clear c0 c1 c2 c3 d0 d1 d2 d3; have c0 := X7.c0; have c1 := X7.c1; have c2 := X7.c2; have c3 := X7.c3; have d0 := Y7.c0; have d1 := Y7.c1; have d2 := Y7.c2; have d3 := Y7.c3; clear hb))
                          go_roundw
                          case rel => exact ⟨j + 1, by omega, by go_num, P7, HOB, X7, hbt7⟩
                          case measure => simp [intOf]; omega
                        · have hk2 : (eK == fK) = false := by simpa using hk
                          have HR := Lib.hid (HVD.out (.inr (.inl (vb_at HG0.out HDI.out HDJ.out HXE.out hk))))
                          clear hk
                          go_wp2_with (first | (go_at_call 82; refine (HSI.out _ I6 J6).mono ?_; rintro x w7 ⟨rfl, hb⟩; have P7 := P6.step hb; have X7 := X6.step hb; have Y7 := Y6.step hb; have hbt7 := hbt6.trans (hb.mono hbt6.size); clear c0 c1 c2 c3 d0 d1 d2 d3; have c0 := X7.c0; have c1 := X7.c1; have c2 := X7.c2; have c3 := X7.c3; have d0 := Y7.c0; have d1 := Y7.c1; have d2 := Y7.c2; have d3 := Y7.c3; clear hb))
                          go_ret3
                          exact void_ret HR.out rfl hbt7
                      · have HOB := Lib.hid (show OneAt (E2.map CEl.d) i (j + 1) ⟨eq, eM, exs, eK⟩ from HOA.out.step HDJ.out (fun hx => absurd (by
                          have hx2 : exs = fxs := hx
                          rw [← HO.out]; unfold sidesI; rw [if_pos hx2]) ho1))
                        go_wp2_with (first | (go_at_call 82; refine (HSI.out _ I6 J6).mono ?_; rintro x w7 ⟨rfl, hb⟩; have P7 := P6.step hb; have X7 := X6.step hb; have Y7 := Y6.step hb; have hbt7 := hbt6.trans (hb.mono hbt6.size); clear c0 c1 c2 c3 d0 d1 d2 d3; have c0 := X7.c0; have c1 := X7.c1; have c2 := X7.c2; have c3 := X7.c3; have d0 := Y7.c0; have d1 := Y7.c1; have d2 := Y7.c2; have d3 := Y7.c3; clear hb))
                        go_roundw
                        case rel => exact ⟨j + 1, by omega, by go_num, P7, HOB, X7, hbt7⟩
                        case measure => simp [intOf]; omega
                    · obtain rfl : j = i := by omega
                      have HOK2 := Lib.hid (show OneK (E2.map CEl.d) (j + 1) from HOK.out.step HDI.out HOA.out)
                      go_wp2
                      go_loopw [206] (fun k wt => ∃ (kk : Nat) (gs3 : List Bool), kk ≤ L.length ∧ k = .int .i64 kk ∧ PSt en w.heap.size wt (.slice A13 L.length c13) (.slice (some ⟨b, off, none⟩) E2.length c17) (.slice A8 V.length c8) L E2 V g7 gs3 ∧ Hid (Meets LD (E2.map CEl.d) j kk gs3) ∧ CBox wt bx eq eM eA en ec eK ∧ Below w.heap.size w wt) (fun k _ => L.length - (intOf k).toNat)
                      case atStart => exact ⟨0, gs2, Nat.zero_le _, by first | rfl | simp, P6, HME, X6, hbt6⟩
                      case round =>
                        clear P6 X6 hbt6
                        obtain ⟨kk, gs3, hkk, rfl, P8, HMM, X8, hbt8⟩ := hrel
                        by_cases hlt3 : kk < L.length
                        · obtain ⟨b2, off2, f, hA2, hblt2, hfj, hfm, hcs2, hin2⟩ := P8.l.conds.2.at hlt3
                          subst hA2
                          obtain ⟨y0, y1, y2, y3⟩ := hcs2
                          have HDJ := Lib.hid (show LD[kk]? = some f.d by rw [← HLd.out, List.getElem?_map, hfj]; rfl)
                          have hfn : f.n = en := P8.ln f hfm
                          have HMB := Lib.hid hfm
                          obtain ⟨fq, fM, fA, fn, fc, fK, fxs⟩ := f
                          simp only at y0 y1 y2 y3 hin2 hfn
                          have hfn2 : en = fn := hfn.symm
                          subst hfn2
                          have HEB := Lib.hid (HLE.out.norm _ (List.mem_of_getElem? HDJ.out)).nd
                          have HSM := Lib.hid (sides_meet (a := ⟨eq, eM, exs, eK⟩) (b := ⟨fq, fM, fxs, fK⟩) (HEA.out.1.eq HEA.out.2) (HLE.out.lead _ (List.mem_of_getElem? HDJ.out)))
                          have hq2 : (kk : Int) < (L.length : Nat) := by omega
                          have HGL3 := Lib.hid (show gs3.length = L.length by rw [HMM.out.len]; exact HLN2.out)
                          have HGK := Lib.hid (show kk < gs3.length by have := HGL3.out; omega)
                          have b6 := below_alloc wr (.cells #[.int .i64 fq, .int .i64 fM, .slice fA en fc, .int .i64 fK] 56)
                          have P6 := P8.step b6
                          have X6 := X8.step b6
                          have hbt6 := hbt8.trans (b6.mono hbt8.size)
                          have Y6 := CBox.new wr fq fM fA en fc fK
                          have I6 := P6.e.ints _ HMA.out
                          have J6 := hin2.step b6
                          simp only at I6
                          obtain ⟨o, ho⟩ : ∃ o, sidesI exs fxs = o := ⟨_, rfl⟩
                          have HSI := Lib.hid (fun W (h1 : IntsAt W eA en exs) (h2 : IntsAt W fA en fxs) => (ref_sides eq eM eA en ec eK exs fq fM fA fc fK fxs W h1 h2 (fun y hy => by have h9 : -2305843009213693952 ≤ y ∧ y ≤ 2305843009213693952 := HEB.out.x y hy; omega)).mono fun x w' h => (show x = .returned (.int .i64 o) ∧ Below W.heap.size W w' from ⟨by rw [h.1, ho], by obtain ⟨q, os', rfl⟩ := h.2; exact below_grow q os'⟩))
                          have HO := Lib.hid ho
                          have c0 := X6.c0
                          have c1 := X6.c1
                          have c2 := X6.c2
                          have c3 := X6.c3
                          have d0 := Y6.c0
                          have d1 := Y6.c1
                          have d2 := Y6.c2
                          have d3 := Y6.c3
                          have t0 := P6.b.cell HGK.out
                          obtain ⟨gv, hgv⟩ : ∃ gv, gs3[kk]?.getD false = gv := ⟨_, rfl⟩
                          rw [hgv] at t0
                          have HGV := Lib.hid (show gs3[kk]? = some gv by
                            rw [List.getElem?_eq_getElem HGK.out] at hgv ⊢
                            exact congrArg some hgv)
                          clear hfj hfm hin2 ho b6 hgv P8 X8 hbt8
                          cases gv
                          · by_cases ho0 : o = 0
                            · subst ho0
                              have HMS := Lib.hid (show Meets LD (E2.map CEl.d) j (kk + 1) gs3 from HMM.out.skip HDJ.out HDI.out (HSM.out.1.1 HO.out))
                              go_wp2_with (first | (go_at_call 82; refine (HSI.out _ I6 J6).mono ?_; rintro x w7 ⟨rfl, hb⟩; have P7 := P6.step hb; have X7 := X6.step hb; have Y7 := Y6.step hb; have hbt7 := hbt6.trans (hb.mono hbt6.size); clear c0 c1 c2 c3 d0 d1 d2 d3; have c0 := X7.c0; have c1 := X7.c1; have c2 := X7.c2; have c3 := X7.c3; have d0 := Y7.c0; have d1 := Y7.c1; have d2 := Y7.c2; have d3 := Y7.c3; clear hb))
                              go_roundw
                              case rel => exact ⟨kk + 1, gs3, by omega, by go_num, P7, HMS, X7, hbt7⟩
                              case measure => simp [intOf]; omega
                            · have hMt : Mt ⟨fq, fM, fxs, fK⟩ ⟨eq, eM, exs, eK⟩ := Classical.byContradiction fun h => ho0 (HO.out.symm.trans (HSM.out.1.2 h))
                              have hos : o = signI fxs := HO.out.symm.trans (HSM.out.2 hMt)
                              have h1 : -2305843009213693952 ≤ eK ∧ eK ≤ 2305843009213693952 := HEA.out.1.nd.k
                              have h2 : -2305843009213693952 ≤ fK ∧ fK ≤ 2305843009213693952 := HEB.out.k
                              have hpb : -2305843009213693952 ≤ o * eK ∧ o * eK ≤ 2305843009213693952 := by
                                rw [hos]; unfold signI
                                split <;> omega
                              obtain ⟨p, hp⟩ : ∃ p, o * eK = p := ⟨_, rfl⟩
                              rw [hp] at hpb
                              have hw1 : IntKind.i64.wrap (o * eK) = p := by rw [hp]; exact IntWalk.i64_in _ (by omega)
                              have hw2 : IntKind.i64.wrap (fK - p) = fK - p := IntWalk.i64_in _ (by omega)
                              have HP := Lib.hid (show signI fxs * eK = p by rw [← hos]; exact hp)
                              have HMt := Lib.hid hMt
                              clear h1 h2 hpb hp hos hMt
                              by_cases hneg : fK - p < 0
                              · have HR := Lib.hid (HVD.out (.inr (.inr (vc_at HG0.out HMM.out HDJ.out HDI.out HGV.out HMt.out (by show fK - signI fxs * eK < 0; rw [HP.out]; exact hneg)))))
                                go_wp2_with (first | (go_at_call 82; refine (HSI.out _ I6 J6).mono ?_; rintro x w7 ⟨rfl, hb⟩; have P7 := P6.step hb; have X7 := X6.step hb; have Y7 := Y6.step hb; have hbt7 := hbt6.trans (hb.mono hbt6.size); clear c0 c1 c2 c3 d0 d1 d2 d3; have c0 := X7.c0; have c1 := X7.c1; have c2 := X7.c2; have c3 := X7.c3; have d0 := Y7.c0; have d1 := Y7.c1; have d2 := Y7.c2; have d3 := Y7.c3; clear hb))
                                generalize wr.heap.size = bz at *
                                have I7 := P7.e.ints _ HMA.out
                                have J7 := P7.l.ints _ HMB.out
                                simp only at I7 J7
                                have HSD := Lib.hid (show (fun W : World => W.cell? ⟨bx, 0, none⟩ = some (.int .i64 eq) ∧ W.cell? ⟨bx, 1, none⟩ = some (.int .i64 eM) ∧ W.cell? ⟨bx, 2, none⟩ = some (.slice eA en ec) ∧ W.cell? ⟨bx, 3, none⟩ = some (.int .i64 eK) ∧ W.cell? ⟨bz, 0, none⟩ = some (.int .i64 fq) ∧ W.cell? ⟨bz, 1, none⟩ = some (.int .i64 fM) ∧ W.cell? ⟨bz, 2, none⟩ = some (.slice fA en fc) ∧ W.cell? ⟨bz, 3, none⟩ = some (.int .i64 fK)) w7.drew from ⟨by simpa using c0, by simpa using c1, by simpa using c2, by simpa using c3, by simpa using d0, by simpa using d1, by simpa using d2, by simpa using d3⟩)
                                clear P6 X6 Y6 hbt6 I6 J6 t0 y0 y1 y2 y3
                                have t0 := P7.b.cell HGK.out
                                go_region_held3 (fun W => W.cell? ⟨bx, 0, none⟩ = some (.int .i64 eq) ∧ W.cell? ⟨bx, 1, none⟩ = some (.int .i64 eM) ∧ W.cell? ⟨bx, 2, none⟩ = some (.slice eA en ec) ∧ W.cell? ⟨bx, 3, none⟩ = some (.int .i64 eK) ∧ W.cell? ⟨bz, 0, none⟩ = some (.int .i64 fq) ∧ W.cell? ⟨bz, 1, none⟩ = some (.int .i64 fM) ∧ W.cell? ⟨bz, 2, none⟩ = some (.slice fA en fc) ∧ W.cell? ⟨bz, 3, none⟩ = some (.int .i64 fK)) (first | with_reducible exact ⟨c0, c1, c2, c3, d0, d1, d2, d3⟩ | with_reducible exact HSD.out | with_reducible exact ⟨z0, z1, z2, z3, u0, u1, u2, u3⟩ | go_keep)
                                  (first | (go_at_call 82; refine (HSI.out _ (I7.step (Below.refl _ _).drew) (J7.step (Below.refl _ _).drew)).mono ?_; rintro x w9 ⟨rfl, hb⟩; have hx := below_step (Below.refl _ w7).drew hb; have P9 := P7.step hx; have X9 := X7.step hx; have Y9 := Y7.step hx; have z0 := X9.c0; have z1 := X9.c1; have z2 := X9.c2; have z3 := X9.c3; have u0 := Y9.c0; have u1 := Y9.c1; have u2 := Y9.c2; have u3 := Y9.c3; have hbt9 := Lib.hid (hbt7.trans (hx.mono hbt7.size)); have t9 := P9.b.cell HGK.out; have f9 := P9.b.free kk; clear hb c0 c1 c2 c3 d0 d1 d2 d3 t0))
                                rename_i hHeld
                                clear hHeld
                                go_wp2
                                go_ret3
                                exact void_ret HR.out rfl hbt9.out
                              · have HMS := Lib.hid (show Meets LD (E2.map CEl.d) j (kk + 1) (gs3.set kk true) from HMM.out.take HDJ.out HDI.out HMt.out (by show 0 ≤ fK - signI fxs * eK; rw [HP.out]; omega))
                                go_wp2_with (first | (go_at_call 82; refine (HSI.out _ I6 J6).mono ?_; rintro x w7 ⟨rfl, hb⟩; have P7 := P6.step hb; have X7 := X6.step hb; have Y7 := Y6.step hb; have hbt7 := hbt6.trans (hb.mono hbt6.size); clear c0 c1 c2 c3 d0 d1 d2 d3; have c0 := X7.c0; have c1 := X7.c1; have c2 := X7.c2; have c3 := X7.c3; have d0 := Y7.c0; have d1 := Y7.c1; have d2 := Y7.c2; have d3 := Y7.c3; clear hb))
                                generalize wr.heap.size = bz at *
                                have I7 := P7.e.ints _ HMA.out
                                have J7 := P7.l.ints _ HMB.out
                                simp only at I7 J7
                                have HSD := Lib.hid (show (fun W : World => W.cell? ⟨bx, 0, none⟩ = some (.int .i64 eq) ∧ W.cell? ⟨bx, 1, none⟩ = some (.int .i64 eM) ∧ W.cell? ⟨bx, 2, none⟩ = some (.slice eA en ec) ∧ W.cell? ⟨bx, 3, none⟩ = some (.int .i64 eK) ∧ W.cell? ⟨bz, 0, none⟩ = some (.int .i64 fq) ∧ W.cell? ⟨bz, 1, none⟩ = some (.int .i64 fM) ∧ W.cell? ⟨bz, 2, none⟩ = some (.slice fA en fc) ∧ W.cell? ⟨bz, 3, none⟩ = some (.int .i64 fK)) w7.drew from ⟨by simpa using c0, by simpa using c1, by simpa using c2, by simpa using c3, by simpa using d0, by simpa using d1, by simpa using d2, by simpa using d3⟩)
                                clear P6 X6 Y6 hbt6 I6 J6 t0 y0 y1 y2 y3
                                have t0 := P7.b.cell HGK.out
                                go_region_held3 (fun W => W.cell? ⟨bx, 0, none⟩ = some (.int .i64 eq) ∧ W.cell? ⟨bx, 1, none⟩ = some (.int .i64 eM) ∧ W.cell? ⟨bx, 2, none⟩ = some (.slice eA en ec) ∧ W.cell? ⟨bx, 3, none⟩ = some (.int .i64 eK) ∧ W.cell? ⟨bz, 0, none⟩ = some (.int .i64 fq) ∧ W.cell? ⟨bz, 1, none⟩ = some (.int .i64 fM) ∧ W.cell? ⟨bz, 2, none⟩ = some (.slice fA en fc) ∧ W.cell? ⟨bz, 3, none⟩ = some (.int .i64 fK)) (first | with_reducible exact ⟨c0, c1, c2, c3, d0, d1, d2, d3⟩ | with_reducible exact HSD.out | with_reducible exact ⟨z0, z1, z2, z3, u0, u1, u2, u3⟩ | go_keep)
                                  (first | (go_at_call 82; refine (HSI.out _ (I7.step (Below.refl _ _).drew) (J7.step (Below.refl _ _).drew)).mono ?_; rintro x w9 ⟨rfl, hb⟩; have hx := below_step (Below.refl _ w7).drew hb; have P9 := P7.step hx; have X9 := X7.step hx; have Y9 := Y7.step hx; have z0 := X9.c0; have z1 := X9.c1; have z2 := X9.c2; have z3 := X9.c3; have u0 := Y9.c0; have u1 := Y9.c1; have u2 := Y9.c2; have u3 := Y9.c3; have hbt9 := Lib.hid (hbt7.trans (hx.mono hbt7.size)); have t9 := P9.b.cell HGK.out; have f9 := P9.b.free kk; clear hb c0 c1 c2 c3 d0 d1 d2 d3 t0))
                                rename_i hHeld
                                clear hHeld
                                go_wp2
                                go_roundw
                                case rel => exact ⟨kk + 1, gs3.set kk true, by omega, by go_num, P9.set kk true, HMS, X9.step' (a := ⟨g7, kk, none⟩) (show bx ≠ g7 by have := HGX.out; omega) (.bool true), hbt9.out.setCell (p := ⟨g7, kk, none⟩) P9.hg (.bool true)⟩
                                case measure => simp [intOf]; omega
                          · have HMS := Lib.hid (show Meets LD (E2.map CEl.d) j (kk + 1) gs3 from HMM.out.there HOK2.out HDJ.out HDI.out HGV.out)
                            go_wp2
                            go_roundw
                            case rel => exact ⟨kk + 1, gs3, by omega, by go_num, P6, HMS, X6, hbt6⟩
                            case measure => simp [intOf]; omega
                        · obtain rfl : kk = L.length := by omega
                          have HMS := Lib.hid (show Meets LD (E2.map CEl.d) (j + 1) 0 gs3 from by
                            have h9 := HMM.out
                            rw [← HLN2.out] at h9
                            exact h9.next)
                          go_wp2
                          go_roundw
                          case rel => exact ⟨j + 1, gs3, by omega, by go_num, P8, HMS, HOK2, hbt8⟩
                          case measure => simp [intOf]; omega
                · obtain rfl : i = E2.length := by omega
                  have HG1 := Lib.hid (show Gone1 outs LD gs2 from by
                    have h9 := HME.out
                    have h8 := HOK.out
                    have hml : E2.length = (E2.map CEl.d).length := by rw [List.length_map]
                    rw [hml] at h9 h8
                    exact h9.done HG0.out h8)
                  have HGL4 := Lib.hid (show gs2.length = L.length by rw [HG1.out.len]; exact HLN2.out)
                  clear hlt hi HME HOK
                  go_wp2
                  go_loopw [31, 241] (fun u k ws => ∃ (kk : Nat) (O : List CEl), kk ≤ L.length ∧ k = .int .i64 kk ∧ PSt n w.heap.size ws (.slice A13 L.length c13) u (.slice A8 V.length c8) L O V g7 gs2 ∧ Hid (Outs LD gs2 (E2.map CEl.d) kk (O.map CEl.d)) ∧ Hid (O.length ≤ E2.length + kk) ∧ Below w.heap.size w ws) (fun _ k _ => L.length - (intOf k).toNat)
                  case atStart => exact ⟨0, E2, Nat.zero_le _, rfl, hP2, Lib.hid (Outs.zero _ _ _), Lib.hid (by omega), hbs3⟩
                  case round =>
                    clear hP2 hbs3
                    obtain ⟨kk, O, hkk, rfl, P8, HOU, HOL, hbt8⟩ := hrel
                    by_cases hlt3 : kk < L.length
                    · obtain ⟨b2, off2, f, hA2, hblt2, hfj, hfm, hcs2, hin2⟩ := P8.l.conds.2.at hlt3
                      have hro2 := P8.l.rows f hfm
                      subst hA2
                      obtain ⟨y0, y1, y2, y3⟩ := hcs2
                      have HDJ := Lib.hid (show LD[kk]? = some f.d by rw [← HLd.out, List.getElem?_map, hfj]; rfl)
                      have hfn : f.n = n := P8.ln f hfm
                      obtain ⟨fq, fM, fA, en, fc, fK, fxs⟩ := f
                      simp only at y0 y1 y2 y3 hin2 hfn hro2
                      subst hfn
                      have hq2 : (kk : Int) < (L.length : Nat) := by omega
                      have HGK := Lib.hid (show kk < gs2.length by have := HGL4.out; omega)
                      have b6 := below_alloc wr (.cells #[.int .i64 fq, .int .i64 fM, .slice fA en fc, .int .i64 fK] 56)
                      have P6 := P8.step b6
                      have hbt6 := hbt8.trans (b6.mono hbt8.size)
                      have Y6 := CBox.new wr fq fM fA en fc fK
                      have J6 := hin2.step b6
                      have R6 := hro2.step b6
                      have d0 := Y6.c0
                      have d1 := Y6.c1
                      have d2 := Y6.c2
                      have d3 := Y6.c3
                      have b10 := below_alloc (wr.alloc (.cells #[.int .i64 fq, .int .i64 fM, .slice fA en fc, .int .i64 fK] 56)) (.cells #[.int .i64 fq, .int .i64 fM, .slice fA en fc, .int .i64 fK] 56)
                      have HROW := Lib.hid (show ((wr.alloc (.cells #[.int .i64 fq, .int .i64 fM, .slice fA en fc, .int .i64 fK] 56)).alloc (.cells #[.int .i64 fq, .int .i64 fM, .slice fA en fc, .int .i64 fK] 56)).heap[wr.heap.size + 1]? = some (.cells (CEl.cells ⟨fq, fM, fA, en, fc, fK, fxs⟩).toArray 56 (0, 0)) from (by have h9 := heap_alloc_new (wr.alloc (.cells #[.int .i64 fq, .int .i64 fM, .slice fA en fc, .int .i64 fK] 56)) (.cells #[.int .i64 fq, .int .i64 fM, .slice fA en fc, .int .i64 fK] 56); rw [World.size_alloc] at h9; exact h9))
                      have HCO := Lib.hid (show O.length + 1 ≤ 100000 by have := HOL.out; omega)
                      have t0 := P6.b.cell HGK.out
                      obtain ⟨gv, hgv⟩ : ∃ gv, gs2[kk]?.getD false = gv := ⟨_, rfl⟩
                      rw [hgv] at t0
                      have HGV := Lib.hid (show gs2[kk]? = some gv by
                        rw [List.getElem?_eq_getElem HGK.out] at hgv ⊢
                        exact congrArg some hgv)
                      clear hfj hfm hin2 hro2 b6 hgv P8 hbt8
                      cases gv
                      · have HO2 := Lib.hid (show Outs LD gs2 (E2.map CEl.d) (kk + 1) (O.map CEl.d ++ [⟨fq, fM, fxs, fK⟩]) from HOU.out.put HDJ.out HGV.out)
                        go_wp2_with (first | (at_builtin; refine wpList_append_cond3 rfl _ _ 34 rfl rfl rfl (P6.e.step b10) (wr.heap.size + 1) ⟨fq, fM, fA, en, fc, fK, fxs⟩ rfl HROW.out (J6.step b10) (R6.step b10) HCO.out (hbt6.trans (b10.mono hbt6.size)).size ?_; intro g12 cap12 w12 L12 hgr12 hb12 hf12; have P12 := PSt.put (x := ⟨fq, fM, fA, en, fc, fK, fxs⟩) (P6.step b10) rfl L12 hgr12 hf12; have hbt12 := (hbt6.trans (b10.mono hbt6.size)).trans hb12; clear L12 hgr12 hb12 hf12))
                        go_roundw
                        case rel => exact ⟨kk + 1, O ++ [⟨fq, fM, fA, en, fc, fK, fxs⟩], by omega, by go_num, P12, Lib.hid (by rw [List.map_append]; exact HO2.out), Lib.hid (by rw [List.length_append, List.length_singleton]; have := HOL.out; omega), hbt12⟩
                        case measure => simp [intOf]; omega
                      · have HO2 := Lib.hid (show Outs LD gs2 (E2.map CEl.d) (kk + 1) (O.map CEl.d) from HOU.out.skip HGV.out)
                        go_wp2
                        go_roundw
                        case rel => exact ⟨kk + 1, O, by omega, by go_num, P6, HO2, Lib.hid (by have := HOL.out; omega), hbt6⟩
                        case measure => simp [intOf]; omega
                    · obtain rfl : kk = L.length := by omega
                      have HOM := Lib.hid (show ∀ t, t ∈ O.map CEl.d ++ V.map CEl.d ↔ OutP outs LD t from by
                        have h9 := HOU.out
                        rw [← HLN2.out] at h9
                        exact h9.done HG0.out HG1.out HVDD.out)
                      have HSN := Lib.hid (show ∀ e ∈ O ++ V, e.n = n ∧ NormD n e.d from fun e he => ⟨by
                        rcases List.mem_append.1 he with he | he
                        · exact P8.en e he
                        · exact P8.vn e he, outp_norm HNE.out HLE.out ((HOM.out e.d).1 (by rw [← List.map_append]; exact List.mem_map_of_mem he))⟩)
                      have HVN := Lib.hid (show (A8 = none → c8 = 0) ∧ ∀ ad, A8 = some ad → ad.spot = none from by
                        rcases cl_shape P8.v with ⟨h1, h2, _⟩ | ⟨g, h1, _, _⟩
                        · exact ⟨(fun _ => h2), (fun ad h => (by rw [h1] at h; cases h))⟩
                        · exact ⟨(fun h => (by rw [h1] at h; cases h)), (fun ad h => (by rw [h1] at h; cases h; rfl))⟩)
                      have HTOT := Lib.hid (show O.length + V.length ≤ 2000 by have h1 := HOL.out; have h2 := HE2.out; have h3 := HSUM.out; omega)
                      have HCS := Lib.hid (show O.length + V.length ≤ 100000 by have := HTOT.out; omega)
                      have HSM2 := Lib.hid (show (O ++ V).length ≤ 2000 by rw [List.length_append]; exact HTOT.out)
                      have HPR := Lib.hid (fun (R : List CD) (h : R = sortS ((O ++ V).map CEl.d)) => (show pd = if normFits n ds = false ∨ 96 < R.length then ([], false, 3) else (R, false, 0) from by
                        have hg := sortS_good (n := n) ((O ++ V).map CEl.d) (fun d hd => by
                          obtain ⟨e, he, rfl⟩ := List.mem_map.1 hd
                          exact (HSN.out e he).2)
                        rw [← h] at hg
                        rw [← HPD.out]
                        have h9 := HND.out
                        have h8 := HLE.out.of
                        have h7 := HG1.out.void
                        have h6 : ∀ t, t ∈ R ↔ OutP outs LD t := fun t => (hg.2 t).trans (by rw [List.map_append]; exact HOM.out t)
                        rw [← HOUT.out] at h9 h8 h7 h6
                        exact piece_ref_some HKO.out h9 HV.out h8 h7 h6 hg.1))
                      clear HOU HG0 HG1
                      obtain ⟨OV, hOV⟩ : ∃ OV, O ++ V = OV := ⟨_, rfl⟩
                      rw [hOV] at HSN HSM2 HPR
                      have HOV := Lib.hid hOV
                      clear hOV
                      obtain ⟨A31, c31, rfl⟩ := P8.e.slice
                      cases fu
                      · have HFT := Lib.hid (show normFits n ds = true by
                          have h9 := HFU.out
                          cases hh : normFits n ds
                          · rw [hh] at h9; cases h9
                          · rfl)
                        go_wp2_with (first | (at_builtin; refine wpList_append_view rfl _ _ 34 rfl rfl rfl P8.e rfl P8.v.conds.2 HVN.out.1 HVN.out.2 P8.v.rows HCS.out hbt8.size ?_; intro u10 w10 L10 hb10; rw [HOV.out] at L10; obtain ⟨A10, c10, hu10⟩ := L10.slice; subst hu10; have hbt10 := hbt8.trans hb10) | (go_at_call 83; refine (ref_sorted hn12 A10 OV.length c10 OV w10 L10.conds.2 L10.rows HSN.out HSM2.out).mono ?_; rintro x w11 ⟨A11, k11, c11, R, rfl, L11, hRd, hRm, hb11⟩; have hbt11 := hbt10.trans (hb11.mono hbt10.size); have L12 := L11.mono (Nat.le_refl _) hbt10.size; obtain rfl : k11 = R.length := L11.conds.1; clear hb11 L11))
                        · rename_i hbig
                          go_ret3
                          exact full_ret (by rw [HPR.out _ hRd, if_pos (.inr (by rw [List.length_map]; omega))]) rfl hbt11
                        · rename_i hbig
                          go_ret3
                          have HPS := HPR.out _ hRd
                          rw [if_neg (by
                            rw [HFT.out, List.length_map]
                            rintro (h | h)
                            · cases h
                            · omega)] at HPS
                          rw [HPS]
                          exact ⟨A11, R.length, c11, R, rfl, L12, rfl, (fun e he => (HSN.out e (hRm e he)).1), hbt11⟩
                      · have HFT := Lib.hid (show normFits n ds = false by
                          have h9 := HFU.out
                          cases hh : normFits n ds
                          · rfl
                          · rw [hh] at h9; cases h9)
                        go_wp2_with (first | (at_builtin; refine wpList_append_view rfl _ _ 34 rfl rfl rfl P8.e rfl P8.v.conds.2 HVN.out.1 HVN.out.2 P8.v.rows HCS.out hbt8.size ?_; intro u10 w10 L10 hb10; rw [HOV.out] at L10; obtain ⟨A10, c10, hu10⟩ := L10.slice; subst hu10; have hbt10 := hbt8.trans hb10) | (go_at_call 83; refine (ref_sorted hn12 A10 OV.length c10 OV w10 L10.conds.2 L10.rows HSN.out HSM2.out).mono ?_; rintro x w11 ⟨A11, k11, c11, R, rfl, L11, hRd, hRm, hb11⟩; have hbt11 := hbt10.trans (hb11.mono hbt10.size); have L12 := L11.mono (Nat.le_refl _) hbt10.size; obtain rfl : k11 = R.length := L11.conds.1; clear hb11 L11))
                        go_ret3
                        exact full_ret (by rw [HPR.out _ hRd, HFT.out]; rfl) rfl hbt11
end Go.Proofs.YtkgnlloioaobiaaGreat
namespace Go.Proofs.YtkgnlloioaobiaaGreat
open Go.RowKit
theorem byte_inj {a b : Int} (ha : 0 ≤ a ∧ a ≤ 255) (hb : 0 ≤ b ∧ b ≤ 255) (h : UInt8.ofNat a.toNat = UInt8.ofNat b.toNat) : a = b := by
  have := congrArg UInt8.toNat h
  simp only [UInt8.toNat_ofNat'] at this
  omega
theorem map_byte : ∀ l l' : List Int, (∀ x ∈ l, 0 ≤ x ∧ x ≤ 255) → (∀ x ∈ l', 0 ≤ x ∧ x ≤ 255) → l.map (fun x => UInt8.ofNat x.toNat) = l'.map (fun x => UInt8.ofNat x.toNat) → l = l'
  | [], [], _, _, _ => rfl
  | [], _ :: _, _, _, h => by simp at h
  | _ :: _, [], _, _, h => by simp at h
  | a :: l, b :: l', h1, h2, h => by
    simp only [List.map_cons, List.cons.injEq] at h
    rw [byte_inj (h1 a (List.mem_cons_self ..)) (h2 b (List.mem_cons_self ..)) h.1, map_byte l l' (fun x hx => h1 x (List.mem_cons_of_mem _ hx)) (fun x hx => h2 x (List.mem_cons_of_mem _ hx)) h.2]
theorem key_bytes {l : List CD} (hq : ∀ d ∈ l, d.q = 0 ∨ d.q = 1 ∨ d.q = 2) : ∀ x ∈ keyB l, 0 ≤ x ∧ x ≤ 255 := fun x hx => by
  unfold keyB at hx
  obtain ⟨d, hd, hx⟩ := List.mem_flatMap.1 hx
  unfold keyC at hx
  rcases List.mem_cons.1 hx with rfl | hx
  · rcases hq d hd with h | h | h <;> omega
  · rcases List.mem_append.1 hx with hx | hx
    · exact num_byte _ x hx
    · rcases List.mem_append.1 hx with hx | hx
      · unfold numsB at hx
        obtain ⟨y, _, hx⟩ := List.mem_flatMap.1 hx
        exact num_byte _ x hx
      · exact num_byte _ x hx
theorem valid_q {n : Nat} {d : CD} (h : ValidD n d) : d.q = 0 ∨ d.q = 1 ∨ d.q = 2 := by
  rcases (validC_kind h.1).2 with h | h | h
  · exact .inl h.1
  · exact .inr (.inl h.1)
  · exact .inr (.inr h.1)
theorem keyU_inj {n : Nat} {l l' : List CD} (h : ∀ d ∈ l, ValidD n d) (h' : ∀ d ∈ l', ValidD n d) (e : keyU l = keyU l') : l = l' :=
  key_inj2 l l' (fun d hd => (h d hd).2) (fun d hd => (h' d hd).2) (map_byte _ _ (key_bytes fun d hd => valid_q (h d hd)) (key_bytes fun d hd => valid_q (h' d hd)) e)
section
variable {n : Nat} {x : List Int}
end
end Go.Proofs.YtkgnlloioaobiaaGreat
namespace Go.Proofs.YtkgnlloioaobiaaGreat
open Go.RowKit
open Classical in
noncomputable def pcsS (n : Nat) (r : Int × List (List CD)) (ds : List CD) : Int × List (List CD) :=
  if r.1 ≠ 0 then r else if (pieceD n ds).2.2 ≠ 0 then ((pieceD n ds).2.2, []) else if (pieceD n ds).2.1 = true ∨ (pieceD n ds).1 ∈ r.2 then r else (0, r.2 ++ [(pieceD n ds).1])
noncomputable def pcsD (n : Nat) (l : List (List CD)) : Int × List (List CD) := l.foldl (pcsS n) (0, [])
theorem pcs_stuck {n : Nat} {r : Int × List (List CD)} (h : r.1 ≠ 0) : ∀ l : List (List CD), l.foldl (pcsS n) r = r
  | [] => rfl
  | d :: l => by
    rw [List.foldl_cons, show pcsS n r d = r from if_pos h]
    exact pcs_stuck h l
section
variable {n : Nat} {l : List (List CD)} {ds : List CD} {us : List (List CD)} {i : Nat}
theorem pcs_snoc (h : l[i]? = some ds) : pcsD n (l.take (i + 1)) = pcsS n (pcsD n (l.take i)) ds := by
  obtain ⟨hi, rfl⟩ := List.getElem?_eq_some_iff.1 h
  unfold pcsD
  rw [List.take_succ_eq_append_getElem hi, List.foldl_append]
  rfl
theorem pcs_one (he : (pieceD n ds).2.2 = 0) (hv : (pieceD n ds).2.1 = true ∨ (pieceD n ds).1 ∈ us) : pcsS n (0, us) ds = (0, us) := by
  unfold pcsS
  rw [if_neg (by simp), if_neg (by simpa using he), if_pos hv]
theorem pcs_two (he : (pieceD n ds).2.2 = 0) (hv : (pieceD n ds).2.1 = false) (hk : (pieceD n ds).1 ∉ us) : pcsS n (0, us) ds = (0, us ++ [(pieceD n ds).1]) := by
  unfold pcsS
  rw [if_neg (by simp), if_neg (by simpa using he), if_neg (by rw [hv]; simp [hk])]
theorem pcs_bad (h : l[i]? = some ds) (hp : pcsD n (l.take i) = (0, us)) (he : (pieceD n ds).2.2 ≠ 0) : pcsD n l = ((pieceD n ds).2.2, []) := by
  have h1 := pcs_snoc (n := n) h
  rw [hp] at h1
  unfold pcsS at h1
  rw [if_neg (by simp), if_pos he] at h1
  unfold pcsD at h1 ⊢
  rw [← List.take_append_drop (i + 1) l, List.foldl_append, h1]
  exact pcs_stuck he _
theorem pcs_same (h : l[i]? = some ds) (hp : pcsD n (l.take i) = (0, us)) (he : (pieceD n ds).2.2 = 0) (hv : (pieceD n ds).2.1 = true ∨ (pieceD n ds).1 ∈ us) : pcsD n (l.take (i + 1)) = (0, us) := by
  rw [pcs_snoc h, hp]
  exact pcs_one he hv
theorem pcs_new (h : l[i]? = some ds) (hp : pcsD n (l.take i) = (0, us)) (he : (pieceD n ds).2.2 = 0) (hv : (pieceD n ds).2.1 = false) (hk : (pieceD n ds).1 ∉ us) : pcsD n (l.take (i + 1)) = (0, us ++ [(pieceD n ds).1]) := by
  rw [pcs_snoc h, hp]
  exact pcs_two he hv hk
end
theorem piece_errs (n : Nat) (ds : List CD) : (pieceD n ds).2.2 = 0 ∨ (pieceD n ds).2.2 = 3 := by
  unfold pieceD
  split
  · exact .inl rfl
  · split
    · exact .inl rfl
    · split
      · exact .inr rfl
      · exact .inl rfl
theorem snoc_ind {α : Type} {P : List α → Prop} (h0 : P []) (h1 : ∀ l a, P l → P (l ++ [a])) : ∀ l, P l := by
  have key : ∀ l : List α, P l.reverse := by
    intro l
    induction l with
    | nil => exact h0
    | cons a l ih => rw [List.reverse_cons]; exact h1 _ _ ih
  intro l
  have := key l.reverse
  rwa [List.reverse_reverse] at this
theorem pcs_gather {n : Nat} : ∀ l : List (List CD), (∀ ds ∈ l, KindsOk n ds) → (∃ us, gatherD n l = (0, us) ∧ pcsD n l = (0, us) ∧ GoodU n us) ∨ ((gatherD n l).1 = 3 ∧ ((pcsD n l).1 ≠ 0 ∨ 400 < (pcsD n l).2.length)) := by
  refine snoc_ind ?_ ?_
  · intro _; exact .inl ⟨[], rfl, rfl, ⟨(fun u h => nomatch h), by simp⟩⟩
  · intro l ds ih hl
    have hds : KindsOk n ds := hl ds (by simp)
    have hsn : pcsD n (l ++ [ds]) = pcsS n (pcsD n l) ds := by unfold pcsD; rw [List.foldl_append]; rfl
    rcases ih (fun d hd => hl d (by simp [hd])) with ⟨us, h1, h2, hg⟩ | ⟨h1, h2⟩
    · have hgn := gather_next h1 ds
      rw [hsn, hgn, h2]
      have hpv := piece_valid hds
      by_cases he : (pieceD n ds).2.2 = 0
      · by_cases hv : (pieceD n ds).2.1 = true
        · rw [show addD n us ds = (0, us) from by unfold addD; rw [if_pos (.inr hv), he], pcs_one he (.inl hv)]
          exact .inl ⟨us, rfl, rfl, hg⟩
        · have ha : addD n us ds = keepD us (pieceD n ds).1 := by unfold addD; rw [if_neg (by simp [he, hv])]
          by_cases hk : (pieceD n ds).1 ∈ us
          · rw [ha, show keepD us (pieceD n ds).1 = (0, us) from by unfold keepD; rw [if_pos ⟨_, hk, rfl⟩], pcs_one he (.inr hk)]
            exact .inl ⟨us, rfl, rfl, hg⟩
          · have hkn : ¬ ∃ q ∈ us, keyU q = keyU (pieceD n ds).1 := by
              rintro ⟨q, hq, e⟩
              rw [keyU_inj (hg.1 q hq).1 hpv.1 e] at hq
              exact hk hq
            rw [ha, pcs_two he (by simpa using hv) hk]
            by_cases h4 : us.length = 400
            · rw [show keepD us (pieceD n ds).1 = (3, us) from by unfold keepD; rw [if_neg hkn, if_pos h4]]
              exact .inr ⟨rfl, .inr (by rw [List.length_append, h4]; simp)⟩
            · rw [show keepD us (pieceD n ds).1 = (0, us ++ [(pieceD n ds).1]) from by unfold keepD; rw [if_neg hkn, if_neg h4]]
              refine .inl ⟨_, rfl, rfl, fun u hu => ?_, by rw [List.length_append]; have := hg.2; simp; omega⟩
              rcases List.mem_append.1 hu with hu | hu
              · exact hg.1 u hu
              · rw [List.mem_singleton.1 hu]; exact hpv
      · have h3 := (piece_errs n ds).resolve_left he
        rw [show addD n us ds = (3, us) from by unfold addD; rw [if_pos (.inl he), h3], show pcsS n (0, us) ds = (3, []) from by unfold pcsS; rw [if_neg (by simp), if_pos he, h3]]
        exact .inr ⟨rfl, .inl (by decide)⟩
    · have hgs : gatherD n (l ++ [ds]) = gatherD n l := gather_stuck (by rw [h1]; decide)
      rw [hsn, hgs]
      refine .inr ⟨h1, ?_⟩
      unfold pcsS
      by_cases h0 : (pcsD n l).1 ≠ 0
      · rw [if_pos h0]; exact .inl h0
      · rw [if_neg h0]
        have h4 := h2.resolve_left h0
        split
        · rename_i he; exact .inl he
        · split
          · exact .inr h4
          · exact .inr (by rw [List.length_append]; omega)
theorem same_iff : ∀ {l l' : List CEl}, sameP l l' = true ↔ l.map CEl.d = l'.map CEl.d
  | [], [] => by simp [sameP, sameL]
  | [], _ :: _ => by simp [sameP, sameL]
  | _ :: _, [] => by simp [sameP, sameL]
  | a :: l, b :: l' => by
    have ih := same_iff (l := l) (l' := l')
    have h1 : a.same b = true ↔ a.d = b.d := by
      obtain ⟨q, M, A, n, c, K, xs⟩ := a
      obtain ⟨q', M', A', n', c', K', xs'⟩ := b
      show sameC q M xs K q' M' xs' K' = true ↔ (⟨q, M, xs, K⟩ : CD) = ⟨q', M', xs', K'⟩
      unfold sameC
      rw [Bool.and_eq_true, Bool.and_eq_true, beq_iff_eq, beq_iff_eq, sameB_true]
      simp
    show (a.same b && sameP l l') = true ↔ _
    rw [Bool.and_eq_true, h1, ih]
    simp
def knownB (ps : List PEl) (els : List CEl) : Bool := ps.any fun p => sameP p.els els
theorem known_iff {ps : List PEl} {els : List CEl} : knownB ps els = true ↔ els.map CEl.d ∈ ps.map PEl.dat := by
  unfold knownB
  rw [List.any_eq_true, List.mem_map]
  exact ⟨fun ⟨p, hp, h⟩ => ⟨p, hp, same_iff.1 h⟩, fun ⟨p, hp, h⟩ => ⟨p, hp, same_iff.2 h⟩⟩
end Go.Proofs.YtkgnlloioaobiaaGreat
namespace Go.Proofs.YtkgnlloioaobiaaGreat
open Go.RowKit Go.Shelf
theorem ref_known (A : Option Addr) (m c : Nat) (ps : List PEl) (A' : Option Addr) (m' c' : Nat) (els' : List CEl) (w : World) (P0 : PiecesAt w A m ps) (C1 : CondsAt w A' m' els') :
    Calls Tryz.prog 97 #[.slice A m c, .slice A' m' c'] w fun e w' => e = .returned (.bool (knownB ps els')) ∧ Below w.heap.size w w' := by
  have hsm := P0.small
  have HL := Lib.hid P0.len
  obtain ⟨kb, hkb⟩ : ∃ kb, knownB ps els' = kb := ⟨_, rfl⟩
  rw [hkb]
  have HK := Lib.hid hkb
  clear hkb
  go_enter Tryz.func97, Tryz.ntmps97
  go_wp2
  go_loopw [9] (fun v wr => ∃ i : Nat, i ≤ m ∧ v = .int .i64 i ∧ Hid (∀ j p, j < i → ps[j]? = some p → sameP p.els els' = false) ∧ Below w.heap.size w wr) (fun v _ => m - (intOf v).toNat)
  case atStart => exact ⟨0, Nat.zero_le _, rfl, Lib.hid (fun j x h => absurd h (by omega)), Below.refl _ _⟩
  case round =>
    obtain ⟨i, hi, rfl, HG, hbr⟩ := hrel
    by_cases hlt : i < m
    · obtain ⟨b, off, p, rfl, hblt, hpj, hmem, hcell, hCp⟩ := (P0.step hbr).at hlt
      have HPJ := Lib.hid hpj
      have HPM := Lib.hid hmem
      obtain ⟨pA, pn, pc, pels⟩ := p
      simp only at hcell hCp
      have hq1 : (i : Int) < m := by omega
      have C2 := C1.step hbr
      clear hpj hmem
      cases hs : sameP pels els'
      · have HS := Lib.hid hs
        have HG2 := Lib.hid (show ∀ j p, j < i + 1 → ps[j]? = some p → sameP p.els els' = false from fun j p hj hp => by
          rcases Nat.lt_or_eq_of_le (Nat.le_of_lt_succ hj) with h | rfl
          · exact HG.out j p h hp
          · rw [HPJ.out] at hp; cases hp; exact HS.out)
        clear hs
        go_wp2_with (go_at_call 72; refine (same_piece pA pn pc pels A' m' c' els' _ hCp C2).mono ?_; rintro e w1 ⟨rfl, hb⟩; rw [HS.out]; replace hbr := hbr.trans (hb.mono hbr.size))
        go_roundw
        case rel => exact ⟨i + 1, by omega, by go_num, HG2, hbr⟩
        case measure => simp [intOf]; omega
      · have HS := Lib.hid hs
        have HR := Lib.hid (show kb = true by rw [← HK.out]; unfold knownB; exact List.any_eq_true.2 ⟨_, HPM.out, HS.out⟩)
        clear hs
        go_wp2_with (go_at_call 72; refine (same_piece pA pn pc pels A' m' c' els' _ hCp C2).mono ?_; rintro e w1 ⟨rfl, hb⟩; rw [HS.out]; replace hbr := hbr.trans (hb.mono hbr.size))
        go_ret
        rw [HR.out]
        exact ⟨rfl, hbr⟩
    · obtain rfl : i = m := by omega
      have HR := Lib.hid (show kb = false by
        rw [← HK.out, Bool.eq_false_iff]
        intro h
        unfold knownB at h
        obtain ⟨p, hp, h1⟩ := List.any_eq_true.1 h
        obtain ⟨j, hj, e⟩ := List.getElem_of_mem hp
        rw [HG.out j p (by have := HL.out; omega) (by rw [List.getElem?_eq_getElem hj, e])] at h1
        cases h1)
      go_wp2
      go_ret
      rw [HR.out]
      exact ⟨rfl, hbr⟩
def PcsRet (n : Nat) (w : World) (e : Ending) (w' : World) (r : Int × List (List CD)) : Prop :=
  ∃ A k c us, e = .returned (.tuple #[.slice A k c, .int .i64 r.1]) ∧ PiecesAt w' A k us ∧ (∀ p ∈ us, PieceOk n w' p) ∧ us.map PEl.dat = r.2 ∧ (0 < k → ∃ g o, A = some ⟨g, o, none⟩ ∧ w.heap.size ≤ g) ∧ Below w.heap.size w w'
set_option maxHeartbeats 4000000 in
theorem ref_pieces {n : Nat} (hn12 : n ≤ 12) (A : Option Addr) (m c : Nat) (ps : List PEl) (w : World) (P0 : PiecesAt w A m ps) (hm : m ≤ 2000000000) (hpre : ∀ p ∈ ps, (∀ e ∈ p.els, PreB n e) ∧ p.n ≤ 1000) :
    Calls Tryz.prog 77 #[.slice A m c] w fun e w' => PcsRet n w e w' (pcsD n (ps.map PEl.dat)) := by
  have HPRE := Lib.hid hpre
  have HL := Lib.hid P0.len
  obtain ⟨pd, hpd⟩ : ∃ pd, pcsD n (ps.map PEl.dat) = pd := ⟨_, rfl⟩
  rw [hpd]
  have HPD := Lib.hid hpd
  clear hpd hpre
  go_enter Tryz.func77, Tryz.ntmps77
  go_wp2
  go_loopw [4, 12] (fun u k wr => ∃ (i : Nat) (us : List PEl), i ≤ m ∧ k = .int .i64 i ∧ PL n w.heap.size wr u us ∧ Hid (pcsD n ((ps.map PEl.dat).take i) = (0, us.map PEl.dat)) ∧ Hid (us.length ≤ i) ∧ Below w.heap.size w wr) (fun _ k _ => m - (intOf k).toNat)
  case atStart => exact ⟨0, [], Nat.zero_le _, rfl, PL.nil _ _ _, Lib.hid rfl, Lib.hid (Nat.le_refl _), Below.refl _ _⟩
  case round =>
    obtain ⟨i, us, hi, rfl, hU, HD, HUL, hbr⟩ := hrel
    obtain ⟨A4, c4, rfl⟩ := hU.slice
    by_cases hlt : i < m
    · obtain ⟨b, off, p, rfl, hblt, hpj, hmem, hcell, hCp⟩ := (P0.step hbr).at hlt
      have HPJ := Lib.hid (show (ps.map PEl.dat)[i]? = some (p.els.map CEl.d) by rw [List.getElem?_map, hpj]; rfl)
      have hpp := HPRE.out p hmem
      obtain ⟨pA, pn, pc, pels⟩ := p
      simp only at hcell hCp hpp
      have hq1 : (i : Int) < m := by omega
      have HPP := Lib.hid (fun W (I : CondsAt W pA pn pels) => ref_piece (n := n) hn12 (c := pc) W I hpp.1 hpp.2)
      have HPN := Lib.hid (piece_norm (norm_all hCp.ints hpp.1))
      obtain ⟨q, hq⟩ : ∃ q, pieceD n (pels.map CEl.d) = q := ⟨_, rfl⟩
      rw [hq] at HPP HPN
      have HQ := Lib.hid hq
      obtain ⟨ql, qv, qe⟩ := q
      simp only at HPP HPN
      clear hpj hmem hpp hq
      by_cases hqe : qe = 0
      · subst hqe
        have HQ2 := Lib.hid (show (pieceD n (pels.map CEl.d)).2.2 = 0 by rw [HQ.out])
        cases qv
        · have HQ1 := Lib.hid (show (pieceD n (pels.map CEl.d)).2.1 = false by rw [HQ.out])
          have hul : us.length + 1 ≤ 4000000000 := by have := HUL.out; omega
          have HUM := Lib.hid (show ∀ l1 : List CEl, l1.map CEl.d = ql → (knownB us l1 = true ↔ (pieceD n (pels.map CEl.d)).1 ∈ us.map PEl.dat) from fun l1 h => by rw [known_iff, h, HQ.out])
          by_cases hkn : (pieceD n (pels.map CEl.d)).1 ∈ us.map PEl.dat
          · have HNX := Lib.hid (pcs_same HPJ.out HD.out HQ2.out (.inr hkn))
            have HKN := Lib.hid (fun (l1 : List CEl) (h : l1.map CEl.d = ql) => (HUM.out l1 h).2 hkn)
            clear hkn
            go_wp2_with (first
              | (go_at_call 55; refine (HPP.out _ hCp).mono ?_; rintro e w1 ⟨A1, k1, c1, l1, rfl, hL1, hd1, hn1, hb1⟩; obtain rfl : k1 = l1.length := hL1.conds.1; have hU1 := hU.step hb1; have hbr1 := hbr.trans (hb1.mono hbr.size); clear hb1)
              | (go_at_call 97; refine (ref_known A4 us.length c4 us A1 l1.length c1 l1 _ (hU1.at rfl).2 hL1.conds.2).mono ?_; rintro e w2 ⟨rfl, hb2⟩; rw [HKN.out l1 hd1]; have hU2 := hU1.step hb2; have hbr2 := hbr1.trans (hb2.mono hbr1.size)))
            go_roundw
            case rel => exact ⟨i + 1, us, by omega, by go_num, hU2, HNX, Lib.hid (by have := HUL.out; omega), hbr2⟩
            case measure => simp [intOf]; omega
          · have HNX := Lib.hid (pcs_new HPJ.out HD.out HQ2.out HQ1.out hkn)
            have HKN := Lib.hid (fun (l1 : List CEl) (h : l1.map CEl.d = ql) => (show knownB us l1 = false from Bool.eq_false_iff.2 fun h9 => hkn ((HUM.out l1 h).1 h9)))
            clear hkn
            go_wp2_with (first
              | (go_at_call 55; refine (HPP.out _ hCp).mono ?_; rintro e w1 ⟨A1, k1, c1, l1, rfl, hL1, hd1, hn1, hb1⟩; obtain rfl : k1 = l1.length := hL1.conds.1; have hU1 := hU.step hb1; have hbr1 := hbr.trans (hb1.mono hbr.size); clear hb1)
              | (go_at_call 97; refine (ref_known A4 us.length c4 us A1 l1.length c1 l1 _ (hU1.at rfl).2 hL1.conds.2).mono ?_; rintro e w2 ⟨rfl, hb2⟩; rw [HKN.out l1 hd1]; have hU2 := hU1.step hb2; have hbr2 := hbr1.trans (hb2.mono hbr1.size); have b9 := below_alloc w2 (.cells #[.slice A1 l1.length c1] 34); have HOK := Lib.hid ((piece_ok hL1 hd1 hn1 HPN.out.1 HPN.out.2).keep (.of_below (below_step hb2 b9))); have hsz2 := (hbr2.trans (b9.mono hbr2.size)).size)
              | (at_builtin; refine wpList_append_piece rfl _ _ 22 rfl rfl rfl (hU2.step b9) w2.heap.size ⟨A1, l1.length, c1, l1⟩ rfl (heap_alloc_new w2 (.cells #[.slice A1 l1.length c1] 34)) HOK.out hul hsz2 ?_; intro A5 c5 w5 hU5 hk5 hb5; have hbr5 := (hbr2.trans (b9.mono hbr2.size)).trans hb5))
            go_roundw
            case rel => exact ⟨i + 1, us ++ [⟨A1, l1.length, c1, l1⟩], by omega, by go_num, hU5, Lib.hid (by
              rw [HNX.out, List.map_append, HQ.out]
              show (0, us.map PEl.dat ++ [ql]) = (0, us.map PEl.dat ++ [l1.map CEl.d])
              rw [hd1]), Lib.hid (by rw [List.length_append, List.length_singleton]; have := HUL.out; omega), hbr5⟩
            case measure => simp [intOf]; omega
        · have HNX := Lib.hid (pcs_same (n := n) HPJ.out HD.out HQ2.out (.inl (by rw [HQ.out])))
          go_wp2_with (first
            | (go_at_call 55; refine (HPP.out _ hCp).mono ?_; rintro e w1 ⟨A1, k1, c1, l1, rfl, hL1, hd1, hn1, hb1⟩; obtain rfl : k1 = l1.length := hL1.conds.1; have hU1 := hU.step hb1; have hbr1 := hbr.trans (hb1.mono hbr.size); clear hb1))
          go_roundw
          case rel => exact ⟨i + 1, us, by omega, by go_num, hU1, HNX, Lib.hid (by have := HUL.out; omega), hbr1⟩
          case measure => simp [intOf]; omega
      · have HR := Lib.hid (show pd = (qe, []) by
          rw [← HPD.out, pcs_bad HPJ.out HD.out (by rw [HQ.out]; exact hqe), HQ.out])
        have q1 : (qe != 0) = true := by simpa using hqe
        have q2 : (qe == 0) = false := by simpa using hqe
        clear hqe
        go_wp2_with (first
          | (go_at_call 55; refine (HPP.out _ hCp).mono ?_; rintro e w1 ⟨A1, k1, c1, l1, rfl, hL1, hd1, hn1, hb1⟩; obtain rfl : k1 = l1.length := hL1.conds.1; have hU1 := hU.step hb1; have hbr1 := hbr.trans (hb1.mono hbr.size); clear hb1))
        go_ret2
        rw [HR.out]
        exact ⟨none, 0, 0, [], rfl, ⟨rfl, by omega, fun h => absurd h (by omega), (fun p h => nomatch h)⟩, (fun p h => nomatch h), rfl, fun h => absurd h (by omega), hbr1⟩
    · obtain rfl : i = m := by omega
      have HR := Lib.hid (show pd = (0, us.map PEl.dat) by
        rw [← HPD.out, ← HD.out, List.take_of_length_le (by rw [List.length_map, HL.out]; exact Nat.le_refl _)])
      obtain ⟨A9, c9, he9, hP9, hg9⟩ := hU.pieces
      have HOK := Lib.hid hU.ok
      cases he9
      clear hU
      go_wp2
      go_ret2
      rw [HR.out]
      exact ⟨_, _, _, us, rfl, hP9, HOK.out, rfl, hg9, hbr⟩
set_option maxHeartbeats 4000000 in
theorem ref_mades {n : Nat} (hn12 : n ≤ 12) (D : Int) (A : Option Addr) (m c : Nat) (ps : List PEl) (w : World) (P0 : PiecesAt w A m ps) (hm : m ≤ 2000000000) (hpre : ∀ p ∈ ps, (∀ e ∈ p.els, PreB n e) ∧ p.n ≤ 1000) :
    Calls Tryz.prog 47 #[.int .i64 D, .slice A m c] w fun e w' => GatherRet n w e w' D (gatherD n (ps.map PEl.dat)) := by
  have hB := below_alloc w (.cells #[.int .i64 0, .slice none 0 0] 24)
  have X1 := SetBox.new w 0 none 0 0
  have P1 := P0.step hB
  have HK := pcs_gather (n := n) (ps.map PEl.dat) (fun ds hds d hd => by
    obtain ⟨p, hp, rfl⟩ := List.mem_map.1 hds
    obtain ⟨e, he, rfl⟩ := List.mem_map.1 hd
    obtain ⟨h1, h2, _⟩ := (hpre p hp).1 e he
    exact ⟨h2, by rw [← h1]; exact ((P0.conds p hp).ints e he).len⟩)
  have HPC := Lib.hid (fun W (I : PiecesAt W A m ps) => ref_pieces hn12 A m c ps W I hm hpre)
  obtain ⟨pd, hpd⟩ : ∃ pd, pcsD n (ps.map PEl.dat) = pd := ⟨_, rfl⟩
  obtain ⟨gd, hgd⟩ : ∃ gd, gatherD n (ps.map PEl.dat) = gd := ⟨_, rfl⟩
  rw [hpd, hgd] at HK
  rw [hpd] at HPC
  rw [hgd]
  clear hpd hgd P0 hpre
  obtain ⟨pe, pl⟩ := pd
  simp only at HK
  have hBad : ∀ w1 : World, SetBox w1 w.heap.size 0 none 0 0 → Below w.heap.size w w1 → gd.1 = 3 → GatherRet n w (.returned (.tuple #[setV 0 none 0 0, .int .i64 3])) ((w1.setCell ⟨w.heap.size, 0, none⟩ (.int .i64 0)).setCell ⟨w.heap.size, 1, none⟩ (.slice none 0 0)) D gd := fun w1 X hb h3 =>
    ⟨none, 0, 0, [], by rw [h3]; rfl, ⟨rfl, by omega, fun h => absurd h (by omega), (fun p h => nomatch h)⟩, (fun p h => nomatch h), by rw [if_pos (by rw [h3]; decide)]; rfl, fun h => absurd h (by omega), hb.trans (below_put (Nat.le_refl _) _ _)⟩
  have HBad := Lib.hid hBad
  clear hBad
  rcases HK with ⟨us, h1, h2, hg⟩ | ⟨h1, h2⟩
  · obtain ⟨rfl, rfl⟩ := Prod.mk.inj h2
    subst h1
    have HG := Lib.hid hg.2
    clear hg h2
    go_enter Tryz.func47, Tryz.ntmps47
    go_wp2_with (first
      | ((go_at_call 77; refine (HPC.out _ P1).mono ?_; rintro e w1 ⟨A1, k1, c1, qs, rfl, hP1, hok1, hd1, hA1, hb1⟩; have X2 := X1.step hb1; have d0 := X2.c0; have d1 := X2.c1; have e0 := X2.f 0; have e1 := X2.f 1; replace hB := below_step hB hb1; have HK1 := Lib.hid (show k1 = qs.length from hP1.len.symm); have HD1 := Lib.hid (congrArg List.length hd1)); have hk400 : ¬ (400 : Int) < k1 := (by have h1 := HK1.out; have h2 := HD1.out; have h3 := HG.out; rw [List.length_map] at h2; simp only at h2; omega)))
    have X4 := X2.put D A1 k1 c1
    have hku := X2.keepU (.int .i64 D) (.slice A1 k1 c1)
    have hok4 := fun p hp => (hok1 p hp).keep hku
    have hl1 := X1.lt
    rw [World.size_alloc] at hA1
    have hP4 := pieces_move hP1 hok4 hku.size (fun h0 g o hA => by
      obtain ⟨g', o', h1, h2⟩ := hA1 h0
      rw [hA] at h1
      cases h1
      exact put_other (by omega) _ _)
    have hb4 := hB.trans (below_put (w := w1) (N := w.heap.size) (b := w.heap.size) (Nat.le_refl _) (.int .i64 D) (.slice A1 k1 c1))
    generalize (w1.setCell ⟨w.heap.size, 0, none⟩ (.int .i64 D)).setCell ⟨w.heap.size, 1, none⟩ (.slice A1 k1 c1) = w4 at *
    have v0 := X4.c0
    have v1 := X4.c1
    refine bodyPost_ret (v := .tuple #[setV D A1 k1 c1, .int .i64 0]) (by simp [results, Tryz.results47, go_sem, v0, v1]) rfl ?_
    exact ⟨A1, k1, c1, qs, rfl, hP4, hok4, hd1, (fun h => let ⟨g, o, h1, h2⟩ := hA1 h; ⟨g, o, h1, by omega⟩), hb4⟩
  · by_cases hpe : pe = 0
    · subst hpe
      have h3 : 400 < pl.length := h2.resolve_left (by simp)
      have HG := Lib.hid h3
      have H1 := Lib.hid h1
      clear h2 h3 h1
      go_enter Tryz.func47, Tryz.ntmps47
      go_wp2_with (first
        | ((go_at_call 77; refine (HPC.out _ P1).mono ?_; rintro e w1 ⟨A1, k1, c1, qs, rfl, hP1, hok1, hd1, hA1, hb1⟩; have X2 := X1.step hb1; have d0 := X2.c0; have d1 := X2.c1; have e0 := X2.f 0; have e1 := X2.f 1; replace hB := below_step hB hb1; have HK1 := Lib.hid (show k1 = qs.length from hP1.len.symm); have HD1 := Lib.hid (congrArg List.length hd1)); have hk400 : (400 : Int) < k1 := (by have h1 := HK1.out; have h2 := HD1.out; have h3 := HG.out; rw [List.length_map] at h2; simp only at h2; omega)))
      have X4 := X2.put 0 none 0 0
      have HF := HBad.out w1 X2 hB H1.out
      generalize (w1.setCell ⟨w.heap.size, 0, none⟩ (.int .i64 0)).setCell ⟨w.heap.size, 1, none⟩ (.slice none 0 0) = w4 at *
      have v0 := X4.c0
      have v1 := X4.c1
      refine bodyPost_ret (v := .tuple #[setV 0 none 0 0, .int .i64 3]) (by simp [results, Tryz.results47, go_sem, v0, v1]) rfl ?_
      exact HF
    · have q1 : (pe != 0) = true := by simpa using hpe
      have q2 : (pe == 0) = false := by simpa using hpe
      have H1 := Lib.hid h1
      clear h2 hpe h1
      go_enter Tryz.func47, Tryz.ntmps47
      go_wp2_with (first
        | (go_at_call 77; refine (HPC.out _ P1).mono ?_; rintro e w1 ⟨A1, k1, c1, qs, rfl, hP1, hok1, hd1, hA1, hb1⟩; have X2 := X1.step hb1; have d0 := X2.c0; have d1 := X2.c1; have e0 := X2.f 0; have e1 := X2.f 1; replace hB := below_step hB hb1; have HK1 := Lib.hid (show k1 = qs.length from hP1.len.symm); have HD1 := Lib.hid (congrArg List.length hd1)))
      have X4 := X2.put 0 none 0 0
      have HF := HBad.out w1 X2 hB H1.out
      generalize (w1.setCell ⟨w.heap.size, 0, none⟩ (.int .i64 0)).setCell ⟨w.heap.size, 1, none⟩ (.slice none 0 0) = w4 at *
      have v0 := X4.c0
      have v1 := X4.c1
      refine bodyPost_ret (v := .tuple #[setV 0 none 0 0, .int .i64 3]) (by simp [results, Tryz.results47, go_sem, v0, v1]) rfl ?_
      exact HF
end Go.Proofs.YtkgnlloioaobiaaGreat
namespace Go.Proofs.YtkgnlloioaobiaaGreat
open Go.RowKit
set_option maxHeartbeats 4000000 in
theorem ref_boths (D : Int) (A : Option Addr) (n c : Nat) (ps : List PEl) (D' : Int) (A' : Option Addr) (n' c' : Nat) (ps' : List PEl) (w : World) (h : PiecesAt w A n ps) (h' : PiecesAt w A' n' ps') :
    Calls Tryz.prog 50 #[setV D A n c, setV D' A' n' c'] w fun e w' => e = .returned (.int .i64 (bothE D ps D' ps')) ∧ Below w.heap.size w w' := by
  have B1 := below_step (below_alloc w (.cells #[.int .i64 D, .slice A n c] 24)) (below_alloc _ (.cells #[.int .i64 D', .slice A' n' c'] 24))
  have X1 := (SetBox.new w D A n c).alloc (.cells #[.int .i64 D', .slice A' n' c'] 24)
  have X2 := SetBox.new (w.alloc (.cells #[.int .i64 D, .slice A n c] 24)) D' A' n' c'
  rw [World.size_alloc] at X2
  have P1 := h.step B1
  have P2 := h'.step B1
  have c0 := X1.c0
  have c1 := X1.c1
  have d0 := X2.c0
  have d1 := X2.c1
  have T1 : True := trivial
  obtain ⟨v1, hv1⟩ : ∃ v, validS D ps = v := ⟨_, rfl⟩
  obtain ⟨v2, hv2⟩ : ∃ v, validS D' ps' = v := ⟨_, rfl⟩
  have HV1 := Lib.hid hv1
  have HV2 := Lib.hid hv2
  obtain ⟨er, her⟩ : ∃ er, bothE D ps D' ps' = er := ⟨_, rfl⟩
  rw [her]
  have HE := Lib.hid her
  clear hv1 hv2 her h h'
  cases v1
  · have HR := Lib.hid (show er = 1 by rw [← HE.out]; exact both_inv (.inl HV1.out))
    go_enter Tryz.func50, Tryz.ntmps50
    go_wp2_with (first | (go_at_call 46; have t1 := T1; clear T1 t1; refine (ref_svalid D A n c ps _ P1).mono ?_; rintro e w1 ⟨rfl, hb⟩; rw [HV1.out]; replace B1 := below_step B1 hb; replace P2 := P2.step hb; replace X1 := X1.step hb; replace X2 := X2.step hb; clear c0 c1 d0 d1; have c0 := X1.c0; have c1 := X1.c1; have d0 := X2.c0; have d1 := X2.c1))
    go_ret
    exact ⟨ret1 (vint HR.out.symm), B1⟩
  · cases v2
    · have HR := Lib.hid (show er = 1 by rw [← HE.out]; exact both_inv (.inr HV2.out))
      go_enter Tryz.func50, Tryz.ntmps50
      go_wp2_with (first | (go_at_call 46; have t1 := T1; clear T1 t1; refine (ref_svalid D A n c ps _ P1).mono ?_; rintro e w1 ⟨rfl, hb⟩; rw [HV1.out]; replace B1 := below_step B1 hb; replace P2 := P2.step hb; replace X1 := X1.step hb; replace X2 := X2.step hb; clear c0 c1 d0 d1; have c0 := X1.c0; have c1 := X1.c1; have d0 := X2.c0; have d1 := X2.c1) | (go_at_call 46; refine (ref_svalid D' A' n' c' ps' _ P2).mono ?_; rintro e w2 ⟨rfl, hb⟩; rw [HV2.out]; replace B1 := below_step B1 hb; replace X1 := X1.step hb; replace X2 := X2.step hb; clear c0 c1 d0 d1; have c0 := X1.c0; have c1 := X1.c1; have d0 := X2.c0; have d1 := X2.c1))
      go_ret
      exact ⟨ret1 (vint HR.out.symm), B1⟩
    · by_cases hd : D = D'
      · have HR := Lib.hid (show er = 0 by rw [← HE.out]; unfold bothE; rw [if_pos ⟨HV1.out, HV2.out⟩, if_pos hd])
        have q1 : (D != D') = false := by simpa using hd
        have q2 : (D == D') = true := by simpa using hd
        clear hd
        go_enter Tryz.func50, Tryz.ntmps50
        go_wp2_with (first | (go_at_call 46; have t1 := T1; clear T1 t1; refine (ref_svalid D A n c ps _ P1).mono ?_; rintro e w1 ⟨rfl, hb⟩; rw [HV1.out]; replace B1 := below_step B1 hb; replace P2 := P2.step hb; replace X1 := X1.step hb; replace X2 := X2.step hb; clear c0 c1 d0 d1; have c0 := X1.c0; have c1 := X1.c1; have d0 := X2.c0; have d1 := X2.c1) | (go_at_call 46; refine (ref_svalid D' A' n' c' ps' _ P2).mono ?_; rintro e w2 ⟨rfl, hb⟩; rw [HV2.out]; replace B1 := below_step B1 hb; replace X1 := X1.step hb; replace X2 := X2.step hb; clear c0 c1 d0 d1; have c0 := X1.c0; have c1 := X1.c1; have d0 := X2.c0; have d1 := X2.c1))
        go_ret
        exact ⟨ret1 (vint HR.out.symm), B1⟩
      · have HR := Lib.hid (show er = 2 by rw [← HE.out]; unfold bothE; rw [if_pos ⟨HV1.out, HV2.out⟩, if_neg hd])
        have q1 : (D != D') = true := by simpa using hd
        have q2 : (D == D') = false := by simpa using hd
        clear hd
        go_enter Tryz.func50, Tryz.ntmps50
        go_wp2_with (first | (go_at_call 46; have t1 := T1; clear T1 t1; refine (ref_svalid D A n c ps _ P1).mono ?_; rintro e w1 ⟨rfl, hb⟩; rw [HV1.out]; replace B1 := below_step B1 hb; replace P2 := P2.step hb; replace X1 := X1.step hb; replace X2 := X2.step hb; clear c0 c1 d0 d1; have c0 := X1.c0; have c1 := X1.c1; have d0 := X2.c0; have d1 := X2.c1) | (go_at_call 46; refine (ref_svalid D' A' n' c' ps' _ P2).mono ?_; rintro e w2 ⟨rfl, hb⟩; rw [HV2.out]; replace B1 := below_step B1 hb; replace X1 := X1.step hb; replace X2 := X2.step hb; clear c0 c1 d0 d1; have c0 := X1.c0; have c1 := X1.c1; have d0 := X2.c0; have d1 := X2.c1))
        go_ret
        exact ⟨ret1 (vint HR.out.symm), B1⟩
end Go.Proofs.YtkgnlloioaobiaaGreat
namespace Go.Proofs.YtkgnlloioaobiaaGreat
open Go.RowKit
theorem gather_none {n : Nat} {w w' : World} {e : Ending} {D er : Int} (h0 : er ≠ 0) (h : e = .returned (.tuple #[setV 0 none 0 0, .int .i64 er]) ∧ Below w.heap.size w w') : GatherRet n w e w' D (er, []) :=
  ⟨none, 0, 0, [], by rw [if_pos (show ((er, ([] : List (List CD))).1 ≠ 0) from h0)]; exact h.1, ⟨rfl, by omega, fun h => absurd h (by omega), (fun p h => nomatch h)⟩, (fun p h => nomatch h), by rw [if_pos (show ((er, ([] : List (List CD))).1 ≠ 0) from h0)]; rfl, fun h => absurd h (by omega), h.2⟩
end Go.Proofs.YtkgnlloioaobiaaGreat
namespace Go.Proofs.YtkgnlloioaobiaaGreat
open Go.RowKit Go.Shelf
attribute [local go_sem] Oper.semAt_some
def TwoSets (w : World) (g : Nat) (D : Int) (A : Option Addr) (n c : Nat) (D' : Int) (A' : Option Addr) (n' c' : Nat) : Prop := w.heap[g]? = some (.cells #[.int .i64 D, .slice A n c, .int .i64 D', .slice A' n' c'] 24 (0, 0))
theorem TwoSets.cell {w : World} {g : Nat} {D : Int} {A : Option Addr} {n c : Nat} {D' : Int} {A' : Option Addr} {n' c' : Nat} (h : TwoSets w g D A n c D' A' n' c') : w.cell? ⟨g, 0, none⟩ = some (.int .i64 D) ∧ w.cell? ⟨g, 1, none⟩ = some (.slice A n c) ∧ w.cell? ⟨g, 2, none⟩ = some (.int .i64 D') ∧ w.cell? ⟨g, 3, none⟩ = some (.slice A' n' c') := by
  have key : ∀ (k : Nat) (v : Value), #[Value.int .i64 D, .slice A n c, .int .i64 D', .slice A' n' c'][k]? = some v → w.cell? ⟨g, k, none⟩ = some v := fun k v hv => by rw [cell_of_row _ _ k _ _ (0, 0) h]; exact hv
  exact ⟨key 0 _ rfl, key 1 _ rfl, key 2 _ rfl, key 3 _ rfl⟩
set_option maxRecDepth 100000 in
set_option maxHeartbeats 4000000 in
theorem union1_in (F : Fence) (N : Nat) (hf : F.fn 49) (hro : F.round = none) (hN : 1 ≤ N) (l Ba Bb n₀ : Nat) (D : Int) (A : Option Addr) (n c : Nat) (ps : List PEl) (D' : Int) (A' : Option Addr) (n' c' : Nat) (ps' : List PEl) (J Jx : List (PAt (ps ++ ps')) → World → Prop)
    (hY : ∀ pre x W, J pre W → pre.length < n + n' → YieldAt F (N - 1) Tryz.prog l (pEnc (ps ++ ps') x) W fun e W' =>
      (e = .returned (.bool true) ∧ J (pre ++ [x]) W' ∧ KpS n₀ W W') ∨ (e = .returned (.bool false) ∧ Jx (pre ++ [x]) W'))
    (hJa : ∀ pre W o, J pre W → J pre (W.alloc o)) (W : World) (hBa : SetBox W Ba D A n c) (hBb : SetBox W Bb D' A' n' c') (hW0 : n₀ ≤ W.heap.size) (hl : ps.length = n) (hl' : ps'.length = n') (hsm : n ≤ 17592186044416) (hsm' : n' ≤ 17592186044416)
    (hI : 0 < n → ∃ b off, A = some ⟨b, off, none⟩ ∧ b < n₀ ∧ ∀ j p, ps[j]? = some p → W.cell? ⟨b, off + j, none⟩ = some (.slice p.A p.n p.c))
    (hI' : 0 < n' → ∃ b off, A' = some ⟨b, off, none⟩ ∧ b < n₀ ∧ ∀ j p, ps'[j]? = some p → W.cell? ⟨b, off + j, none⟩ = some (.slice p.A p.n p.c)) (h0 : J [] W) :
    CallsIn F N Tryz.prog 49 #[.func (.yield l) #[] #[], .pointer (some ⟨Ba, 0, none⟩), .pointer (some ⟨Bb, 0, none⟩)] W fun e W' => (∃ v, e = .returned v) ∧
      ((∃ ys, ys = (ps ++ ps').attach ∧ J ys W') ∨ (∃ pre, (∃ k, k ≤ n + n' ∧ pre = (ps ++ ps').attach.take k) ∧ Jx pre W')) := by
  have HL := Lib.hid hl
  have HL' := Lib.hid hl'
  have HJA := Lib.hid hJa
  have a0 := hBa.c0
  have a1 := hBa.c1
  have b0 := hBb.c0
  have b1 := hBb.c1
  refine callsIn_of_wp Tryz.func49 rfl hf ?_ hro
  simp only [Tryz.ntmps49, List.size_toArray, List.length_cons, List.length_nil, Nat.reduceAdd, Nat.reduceSub, Array.replicate_succ, Array.replicate_zero, List.push_toArray, List.append_toArray, List.nil_append, List.cons_append]
  clear hl hl' hJa
  have HB1 := Lib.hid (show Below W.heap.size W (W.alloc (.cells #[.int .i64 D, .slice A n c, .int .i64 D', .slice A' n' c'] 24)) from below_alloc W (.cells #[.int .i64 D, .slice A n c, .int .i64 D', .slice A' n' c'] 24))
  have hJ1 := HJA.out [] W (.cells #[.int .i64 D, .slice A n c, .int .i64 D', .slice A' n' c'] 24) h0
  have R1 : TwoSets (W.alloc (.cells #[.int .i64 D, .slice A n c, .int .i64 D', .slice A' n' c'] 24)) W.heap.size D A n c D' A' n' c' := heap_alloc_new W _
  gi_wp2
  generalize W.alloc (.cells #[.int .i64 D, .slice A n c, .int .i64 D', .slice A' n' c'] 24) = W1 at *
  have HW0 := Lib.hid hW0
  have hb1 : Below n₀ W W1 := HB1.out.mono HW0.out
  clear a0 a1 b0 b1 hBa hBb
  gi_loopw [12] (fun i wr => ∃ (s : Int) (k : Nat), ((s = 0 ∧ k = 0) ∨ (s = 1 ∧ k = n) ∨ (s = 2 ∧ k = n + n')) ∧ i = .int .i64 s ∧ J ((ps ++ ps').attach.take k) wr ∧ TwoSets wr W.heap.size D A n c D' A' n' c' ∧ Below n₀ W wr) (fun i _ => 2 - (intOf i).toNat)
  case atStart => exact ⟨0, 0, .inl ⟨rfl, rfl⟩, rfl, hJ1, R1, hb1⟩
  case round =>
    clear hJ1 R1 hb1
    obtain ⟨s, k, hsk, rfl, hJs, hRs, hnx⟩ := hrel
    rcases hsk with ⟨hs1, hs2⟩ | hsk
    · obtain rfl : s = 0 := hs1
      obtain rfl : k = 0 := hs2
      have hbox := below_alloc wr (.cells #[.int .i64 D, .slice A n c] 24)
      have hJ2 := HJA.out _ _ (.cells #[.int .i64 D, .slice A n c] 24) hJs
      have hR2 : TwoSets (wr.alloc (.cells #[.int .i64 D, .slice A n c] 24)) W.heap.size D A n c D' A' n' c' := (hbox.block _ (Array.getElem?_eq_some_iff.1 hRs).1).trans hRs
      have hn2 := hnx.trans (hbox.mono (Nat.le_trans HW0.out hnx.size))
      obtain ⟨t0, t1, t2, t3⟩ := TwoSets.cell hRs
      clear hRs hJs hnx hbox
      gi_wp2
      generalize wr.alloc (.cells #[.int .i64 D, .slice A n c] 24) = W2 at *
      clear t0 t1 t2 t3
      gi_loopw [19] (fun i wt => ∃ j : Nat, j ≤ n ∧ i = .int .i64 j ∧ J ((ps ++ ps').attach.take (0 + j)) wt ∧ TwoSets wt W.heap.size D A n c D' A' n' c' ∧ Below n₀ W wt) (fun i _ => n - (intOf i).toNat)
      case atStart => exact ⟨0, Nat.zero_le _, rfl, hJ2, hR2, hn2⟩
      case round =>
        clear hJ2 hR2 hn2
        obtain ⟨j, hj, rfl, hJs, hRs, hnx⟩ := hrel
        by_cases hlt : j < n
        · obtain ⟨b, off, rfl, hb, hc⟩ := hI (by omega)
          have hkl : 0 + j < (ps ++ ps').attach.length := by rw [List.length_attach, List.length_append, HL.out, HL'.out]; omega
          obtain ⟨x, hx⟩ : ∃ x : PAt (ps ++ ps'), (ps ++ ps').attach[0 + j]? = some x := ⟨_, List.getElem?_eq_getElem hkl⟩
          have hx1 : ps[j]? = some x.1 := by
            have := congrArg (Option.map Subtype.val) hx
            rw [← List.getElem?_map, List.attach_map_subtype_val] at this
            rw [Nat.zero_add, List.getElem?_append_left (by rw [HL.out]; exact hlt)] at this
            exact this
          have hcx : wr.cell? ⟨b, off + j, none⟩ = some (.slice x.1.A x.1.n x.1.c) := (hnx.cell (p := ⟨b, off + j, none⟩) hb).trans (hc j _ hx1)
          have HM := Lib.hid (att_hit hx)
          obtain ⟨fn, tmps, assign, body, hy, hR⟩ := hY _ x wr hJs (by rw [List.length_take]; omega)
          dsimp only [pEnc] at hy
          have hq1 : (j : Int) < n := by omega
          clear hc hx1 hx hkl
          gi_wp2
          refine hR.mono ?_
          rintro e W3 (⟨rfl, hJ3, hk3⟩ | ⟨rfl, hJx3⟩)
          · gi_wp2
            go_roundw
            case rel => exact ⟨j + 1, by omega, by go_num, by rw [show 0 + (j + 1) = 0 + j + 1 by omega, HM.out]; exact hJ3, hk3.2 _ _ _ hRs, hnx.trans hk3.1⟩
            case measure => simp [intOf]; omega
          · gi_wp2
            refine bodyPost_ret (results_none rfl _ _ _) rfl ?_
            exact ⟨⟨_, rfl⟩, .inr ⟨_, ⟨0 + j + 1, by omega, HM.out.symm⟩, hJx3⟩⟩
        · obtain rfl : j = n := by omega
          gi_wp2
          go_roundw
          case rel => exact ⟨0 + 1, 0 + j , .inr (.inl ⟨rfl, by omega⟩), by first | rfl | simp, hJs, hRs, hnx⟩
          case measure => simp [intOf]
    · rcases hsk with ⟨hs1, hs2⟩ | ⟨hs1, hs2⟩
      · obtain rfl : s = 1 := hs1
        have hs3 := hs2.symm
        subst hs3
        have hbox := below_alloc wr (.cells #[.int .i64 D', .slice A' n' c'] 24)
        have hJ2 := HJA.out _ _ (.cells #[.int .i64 D', .slice A' n' c'] 24) hJs
        have hR2 : TwoSets (wr.alloc (.cells #[.int .i64 D', .slice A' n' c'] 24)) W.heap.size D A n c D' A' n' c' := (hbox.block _ (Array.getElem?_eq_some_iff.1 hRs).1).trans hRs
        have hn2 := hnx.trans (hbox.mono (Nat.le_trans HW0.out hnx.size))
        obtain ⟨t0, t1, t2, t3⟩ := TwoSets.cell hRs
        clear hRs hJs hnx hbox
        gi_wp2
        generalize wr.alloc (.cells #[.int .i64 D', .slice A' n' c'] 24) = W2 at *
        clear t0 t1 t2 t3
        gi_loopw [19] (fun i wt => ∃ j : Nat, j ≤ n' ∧ i = .int .i64 j ∧ J ((ps ++ ps').attach.take (n + j)) wt ∧ TwoSets wt W.heap.size D A n c D' A' n' c' ∧ Below n₀ W wt) (fun i _ => n' - (intOf i).toNat)
        case atStart => exact ⟨0, Nat.zero_le _, rfl, hJ2, hR2, hn2⟩
        case round =>
          clear hJ2 hR2 hn2
          obtain ⟨j, hj, rfl, hJs, hRs, hnx⟩ := hrel
          by_cases hlt : j < n'
          · obtain ⟨b, off, rfl, hb, hc⟩ := hI' (by omega)
            have hkl : n + j < (ps ++ ps').attach.length := by rw [List.length_attach, List.length_append, HL.out, HL'.out]; omega
            obtain ⟨x, hx⟩ : ∃ x : PAt (ps ++ ps'), (ps ++ ps').attach[n + j]? = some x := ⟨_, List.getElem?_eq_getElem hkl⟩
            have hx1 : ps'[j]? = some x.1 := by
              have := congrArg (Option.map Subtype.val) hx
              rw [← List.getElem?_map, List.attach_map_subtype_val] at this
              rw [List.getElem?_append_right (by rw [HL.out]; omega), HL.out, show n + j - n = j by omega] at this
              exact this
            have hcx : wr.cell? ⟨b, off + j, none⟩ = some (.slice x.1.A x.1.n x.1.c) := (hnx.cell (p := ⟨b, off + j, none⟩) hb).trans (hc j _ hx1)
            have HM := Lib.hid (att_hit hx)
            obtain ⟨fn, tmps, assign, body, hy, hR⟩ := hY _ x wr hJs (by rw [List.length_take]; omega)
            dsimp only [pEnc] at hy
            have hq1 : (j : Int) < n' := by omega
            clear hc hx1 hx hkl
            gi_wp2
            refine hR.mono ?_
            rintro e W3 (⟨rfl, hJ3, hk3⟩ | ⟨rfl, hJx3⟩)
            · gi_wp2
              go_roundw
              case rel => exact ⟨j + 1, by omega, by go_num, by rw [show n + (j + 1) = n + j + 1 by omega, HM.out]; exact hJ3, hk3.2 _ _ _ hRs, hnx.trans hk3.1⟩
              case measure => simp [intOf]; omega
            · gi_wp2
              refine bodyPost_ret (results_none rfl _ _ _) rfl ?_
              exact ⟨⟨_, rfl⟩, .inr ⟨_, ⟨n + j + 1, by omega, HM.out.symm⟩, hJx3⟩⟩
          · obtain rfl : j = n' := by omega
            gi_wp2
            go_roundw
            case rel => exact ⟨1 + 1, n + j , .inr (.inr ⟨rfl, rfl⟩), by first | rfl | simp, hJs, hRs, hnx⟩
            case measure => simp [intOf]
      · obtain rfl : s = 2 := hs1
        obtain rfl : k = n + n' := hs2
        gi_wp2
        go_end0
        refine ⟨⟨_, rfl⟩, .inl ⟨_, rfl, ?_⟩⟩
        rw [List.take_of_length_le (by rw [List.length_attach, List.length_append, HL.out, HL'.out]; exact Nat.le_refl _)] at hJs
        exact hJs
end Go.Proofs.YtkgnlloioaobiaaGreat
namespace Go.Proofs.YtkgnlloioaobiaaGreat
open Go.RowKit Go.Shelf
theorem pieces_low {w W : World} {A : Option Addr} {n n₀ : Nat} {ps : List PEl} (P0 : PiecesAt w A n ps) (hn : w.heap.size ≤ n₀) (hb : Below w.heap.size w W) : 0 < n → ∃ b off, A = some ⟨b, off, none⟩ ∧ b < n₀ ∧ ∀ j p, ps[j]? = some p → W.cell? ⟨b, off + j, none⟩ = some (.slice p.A p.n p.c) := fun h => by
  obtain ⟨b, off, hA, hlt, hc⟩ := P0.cells h
  exact ⟨b, off, hA, Nat.lt_of_lt_of_le hlt hn, fun j p hp => (hb.cell (p := ⟨b, off + j, none⟩) hlt).trans (hc j p hp)⟩
theorem union_stops (F : Fence) (N : Nat) (hf : F.fn 49) (hro : F.round = none) (hN : 1 ≤ N) (Ba Bb : Nat) (D : Int) (A : Option Addr) (n c : Nat) (ps : List PEl) (D' : Int) (A' : Option Addr) (n' c' : Nat) (ps' : List PEl) (w w2 : World) (hw : Below w.heap.size w w2) (hBa : SetBox w Ba D A n c) (hBb : SetBox w Bb D' A' n' c') (P0 : PiecesAt w A n ps) (P1 : PiecesAt w A' n' ps') :
    SeqStopsK F N Tryz.prog 49 #[.pointer (some ⟨Ba, 0, none⟩), .pointer (some ⟨Bb, 0, none⟩)] (pEnc (ps ++ ps')) (KpS w.heap.size) (fun ys => ys = (ps ++ ps').attach) (fun pre => ∃ k, k ≤ n + n' ∧ pre = (ps ++ ps').attach.take k) (n + n') w2 := fun l J Jx W hW h1 _ hY h0 =>
  have hb := hw.trans (hW.mono hw.size)
  union1_in F N hf hro hN l Ba Bb w.heap.size D A n c ps D' A' n' c' ps' J Jx hY (fun pre W' o h => h1 pre W' (W'.alloc o) none h (World.grownBy_alloc W' o none) (fun r e => by cases e)) W (hBa.step hb) (hBb.step hb) hb.size P0.len P1.len P0.small P1.small (pieces_low P0 (Nat.le_refl _) hb) (pieces_low P1 (Nat.le_refl _) hb) h0
set_option maxHeartbeats 4000000 in
theorem set_union (D : Int) (A : Option Addr) (n c : Nat) (ps : List PEl) (A' : Option Addr) (n' c' : Nat) (ps' : List PEl) (w : World) (h : PiecesAt w A n ps) (h' : PiecesAt w A' n' ps') (hv1 : validS D ps = true) (hv2 : validS D ps' = true) :
    Calls Tryz.prog 14 #[setV D A n c, setV D A' n' c'] w fun e w' => GatherRet D.toNat w e w' D (gatherD D.toNat ((ps ++ ps').map PEl.dat)) := by
  have HE := Lib.hid (show bothE D ps D ps' = 0 by unfold bothE; rw [if_pos ⟨hv1, hv2⟩, if_pos rfl])
  have hvp := valid_parts hv1
  have hvq := valid_parts hv2
  have HPR := Lib.hid (show ∀ p ∈ ps ++ ps', (∀ e ∈ p.els, PreB D.toNat e) ∧ p.n ≤ 1000 from fun p hp => by
    rcases List.mem_append.1 hp with hp | hp
    · exact ⟨(hvp.2 p hp).1, by have h1 := (hvp.2 p hp).2; have := (h.conds p hp).len; omega⟩
    · exact ⟨(hvq.2 p hp).1, by have h1 := (hvq.2 p hp).2; have := (h'.conds p hp).len; omega⟩)
  have HN := Lib.hid (show D.toNat ≤ 100 by have := hvp.1; omega)
  obtain ⟨nn, hnn⟩ : ∃ nn, D.toNat = nn := ⟨_, rfl⟩
  rw [hnn] at HPR HN ⊢
  obtain ⟨gd, hgd⟩ : ∃ gd, gatherD nn ((ps ++ ps').map PEl.dat) = gd := ⟨_, rfl⟩
  rw [hgd]
  have HG := Lib.hid hgd
  obtain ⟨D', hD'⟩ : ∃ D', (if gd.1 ≠ 0 then (0 : Int) else D) = D' := ⟨_, rfl⟩
  have HDD := Lib.hid hD'
  have hB := below_step (below_step (below_alloc w (.cells #[.int .i64 D, .slice A n c] 24)) (below_alloc _ (.cells #[.int .i64 D, .slice A' n' c'] 24))) (below_alloc _ (.cells #[.int .i64 0, .slice none 0 0] 24))
  have X1 := ((SetBox.new w D A n c).alloc (.cells #[.int .i64 D, .slice A' n' c'] 24)).alloc (.cells #[.int .i64 0, .slice none 0 0] 24)
  have X2 := (SetBox.new (w.alloc (.cells #[.int .i64 D, .slice A n c] 24)) D A' n' c').alloc (.cells #[.int .i64 0, .slice none 0 0] 24)
  have X3 := SetBox.new ((w.alloc (.cells #[.int .i64 D, .slice A n c] 24)).alloc (.cells #[.int .i64 D, .slice A' n' c'] 24)) 0 none 0 0
  have P1 := h.step hB
  have P2 := h'.step hB
  have c0 := X1.c0
  have c1 := X1.c1
  have d0 := X2.c0
  have d1 := X2.c1
  simp only [World.size_alloc] at X2 X3 d0 d1
  clear h h' hv1 hv2 hvp hvq hgd hD' hnn
  go_enter Tryz.func14, Tryz.ntmps14
  go_wp2_with (first | (go_at_call 48; refine (set_both D A n c ps D A' n' c' ps' _ P1 P2).mono ?_; rintro e w1 ⟨rfl, hb⟩; rw [HE.out]; replace hB := below_step hB hb; replace P1 := P1.step hb; replace P2 := P2.step hb; replace X1 := X1.step hb; replace X2 := X2.step hb; replace X3 := X3.step hb; clear hb c0 c1 d0 d1; have c0 := X1.c0; have c1 := X1.c1; have d0 := X2.c0; have d1 := X2.c1; have HS1 := Lib.hid hB.size; have HL1 := Lib.hid X3.lt) | (go_at_call 44; refine (gathered_any (n := nn) HN.out D (n + n') (ps ++ ps') w1 (fun p hp => (List.mem_append.1 hp).elim (P1.conds p) (P2.conds p)) HPR.out _ _ (enters_of Tryz.func49 (by kernel_rfl) rfl) (fun w2 hw => union_stops Fence.wide 4 trivial rfl (by omega) _ _ D A n c ps D A' n' c' ps' w1 w2 hw X1 X2 P1 P2)).mono ?_; rw [HG.out]; rintro e w3 ⟨A3, k3, c3, qs, rfl, hP3, hok3, hd3, hA3, hb3⟩; rw [HDD.out]; have hB3 := below_step hB hb3; have Z3 := X3.step hb3; have r0 := Z3.c0; have r1 := Z3.c1; have f0 := Z3.f 0; have f1 := Z3.f 1))
  have X4 := Z3.put D' A3 k3 c3
  have hku := Z3.keepU (.int .i64 D') (.slice A3 k3 c3)
  have hok4 := fun p hp => (hok3 p hp).keep hku
  have hP4 := pieces_move hP3 hok4 hku.size (fun h0 g o hA => by
    obtain ⟨g', o', h1, h2⟩ := hA3 h0
    rw [hA] at h1
    cases h1
    exact put_other (by have := HL1.out; omega) _ _)
  have hb4 := hB3.trans (below_put (w := w3) (N := w.heap.size) (b := w.heap.size + 1 + 1) (by omega) (.int .i64 D') (.slice A3 k3 c3))
  generalize (w3.setCell ⟨w.heap.size + 1 + 1, 0, none⟩ (.int .i64 D')).setCell ⟨w.heap.size + 1 + 1, 1, none⟩ (.slice A3 k3 c3) = w4 at *
  have v0 := X4.c0
  have v1 := X4.c1
  refine bodyPost_ret (v := .tuple #[setV D' A3 k3 c3, .int .i64 gd.1]) (by simp [results, Tryz.results14, go_sem, v0, v1]) rfl ?_
  exact ⟨A3, k3, c3, qs, by rw [HDD.out], hP4, hok4, hd3, (fun h => let ⟨g, o, h1, h2⟩ := hA3 h; ⟨g, o, h1, by have := HS1.out; omega⟩), hb4⟩
set_option maxHeartbeats 4000000 in
theorem set_union_bad (D : Int) (A : Option Addr) (n c : Nat) (ps : List PEl) (D' : Int) (A' : Option Addr) (n' c' : Nat) (ps' : List PEl) (w : World) (h : PiecesAt w A n ps) (h' : PiecesAt w A' n' ps') (hbe : bothE D ps D' ps' ≠ 0) :
    Calls Tryz.prog 14 #[setV D A n c, setV D' A' n' c'] w fun e w' => e = .returned (.tuple #[setV 0 none 0 0, .int .i64 (bothE D ps D' ps')]) ∧ Below w.heap.size w w' := by
  obtain ⟨er, her⟩ : ∃ er, bothE D ps D' ps' = er := ⟨_, rfl⟩
  rw [her] at hbe ⊢
  have HE := Lib.hid her
  have B1 := below_step (below_step (below_alloc w (.cells #[.int .i64 D, .slice A n c] 24)) (below_alloc _ (.cells #[.int .i64 D', .slice A' n' c'] 24))) (below_alloc _ (.cells #[.int .i64 0, .slice none 0 0] 24))
  have X1 := ((SetBox.new w D A n c).alloc (.cells #[.int .i64 D', .slice A' n' c'] 24)).alloc (.cells #[.int .i64 0, .slice none 0 0] 24)
  have X2 := (SetBox.new (w.alloc (.cells #[.int .i64 D, .slice A n c] 24)) D' A' n' c').alloc (.cells #[.int .i64 0, .slice none 0 0] 24)
  have X3 : SetBox (((w.alloc (.cells #[.int .i64 D, .slice A n c] 24)).alloc (.cells #[.int .i64 D', .slice A' n' c'] 24)).alloc (.cells #[.int .i64 0, .slice none 0 0] 24)) (w.heap.size + 2) 0 none 0 0 := by
    have := SetBox.new ((w.alloc (.cells #[.int .i64 D, .slice A n c] 24)).alloc (.cells #[.int .i64 D', .slice A' n' c'] 24)) 0 none 0 0
    rw [World.size_alloc, World.size_alloc] at this
    exact this
  rw [World.size_alloc] at X2
  have P1 := h.step B1
  have P2 := h'.step B1
  have c0 := X1.c0
  have c1 := X1.c1
  have d0 := X2.c0
  have d1 := X2.c1
  have h0' : (er != 0) = true := by simpa using hbe
  have h0'' : (er == 0) = false := by simpa using hbe
  clear her h h' hbe
  go_enter Tryz.func14, Tryz.ntmps14
  go_wp2_with (go_at_call 48; refine (set_both D A n c ps D' A' n' c' ps' _ P1 P2).mono ?_; rintro e w4 ⟨rfl, hb⟩; rw [HE.out]; replace B1 := below_step B1 hb; have X4 := X3.step hb; have z0 := X4.c0; have z1 := X4.c1; have f0 := X4.f 0; have f1 := X4.f 1)
  have X5 := X4.put 0 none 0 0
  have hb8 := below_put (w := w4) (N := w.heap.size) (b := w.heap.size + 2) (by omega) (.int .i64 0) (.slice none 0 0)
  generalize (w4.setCell ⟨w.heap.size + 2, 0, none⟩ (.int .i64 0)).setCell ⟨w.heap.size + 2, 1, none⟩ (.slice none 0 0) = w5 at *
  have y0 := X5.c0
  have y1 := X5.c1
  try rw [Exit.noGoto_ret]
  refine bodyPost_ret (v := .tuple #[setV 0 none 0 0, .int .i64 er]) (by simp [results, Tryz.results14, go_sem, y0, y1]) rfl ?_
  exact ⟨rfl, B1.trans hb8⟩
def unionE (D : Int) (ps : List PEl) (D' : Int) (ps' : List PEl) : Int × List (List CD) := if bothE D ps D' ps' ≠ 0 then (bothE D ps D' ps', []) else gatherD D.toNat ((ps ++ ps').map PEl.dat)
theorem union_any (D : Int) (A : Option Addr) (n c : Nat) (ps : List PEl) (D' : Int) (A' : Option Addr) (n' c' : Nat) (ps' : List PEl) (w : World) (h : PiecesAt w A n ps) (h' : PiecesAt w A' n' ps') :
    Calls Tryz.prog 14 #[setV D A n c, setV D' A' n' c'] w fun e w' => GatherRet D.toNat w e w' D (unionE D ps D' ps') := by
  unfold unionE
  by_cases h0 : bothE D ps D' ps' ≠ 0
  · rw [if_pos h0]
    exact (set_union_bad D A n c ps D' A' n' c' ps' w h h' h0).mono fun e w' h => gather_none h0 h
  · rw [if_neg h0]
    obtain ⟨hv1, hv2, rfl⟩ := both_ok (show bothE D ps D' ps' = 0 by simpa using h0)
    exact set_union D A n c ps A' n' c' ps' w h h' hv1 hv2
end Go.Proofs.YtkgnlloioaobiaaGreat
namespace Go.Proofs.YtkgnlloioaobiaaGreat
open Go.RowKit Go.Shelf
set_option maxHeartbeats 8000000 in
theorem ref_union (D : Int) (A : Option Addr) (n c : Nat) (ps : List PEl) (A' : Option Addr) (n' c' : Nat) (ps' : List PEl) (w : World) (h : PiecesAt w A n ps) (h' : PiecesAt w A' n' ps') (hv1 : validS D ps = true) (hv2 : validS D ps' = true) (hC : A = none → c = 0) (hC' : A' = none → c' = 0) :
    Calls Tryz.prog 15 #[setV D A n c, setV D A' n' c'] w fun e w' => GatherRet D.toNat w e w' D (gatherD D.toNat ((ps ++ ps').map PEl.dat)) := by
  have HE := Lib.hid (show bothE D ps D ps' = 0 by unfold bothE; rw [if_pos ⟨hv1, hv2⟩, if_pos rfl])
  have hvp := valid_parts hv1
  have hvq := valid_parts hv2
  have HPR := (show ∀ p ∈ ps ++ ps', (∀ e ∈ p.els, PreB D.toNat e) ∧ p.n ≤ 1000 from fun p hp => by
    rcases List.mem_append.1 hp with hp | hp
    · exact ⟨(hvp.2 p hp).1, by have h1 := (hvp.2 p hp).2; have := (h.conds p hp).len; omega⟩
    · exact ⟨(hvq.2 p hp).1, by have h1 := (hvq.2 p hp).2; have := (h'.conds p hp).len; omega⟩)
  have hl1 := h.len
  have hl2 := h'.len
  have hp1 := hvp.1
  have hp2 := hvq.1
  have HC := Lib.hid (And.intro hC hC')
  obtain ⟨nn, hnn⟩ : ∃ nn, D.toNat = nn := ⟨_, rfl⟩
  rw [hnn] at HPR ⊢
  obtain ⟨pq, hpq⟩ : ∃ pq, ps ++ ps' = pq := ⟨_, rfl⟩
  have hpl : pq.length = n + n' := by rw [← hpq, List.length_append, hl1, hl2]
  rw [hpq] at HPR ⊢
  obtain ⟨gd, hgd⟩ : ∃ gd, gatherD nn (pq.map PEl.dat) = gd := ⟨_, rfl⟩
  have HMD := Lib.hid (fun (A9 : Option Addr) (k c9 : Nat) (W : World) (P9 : PiecesAt W A9 k pq) => hgd ▸ ref_mades (n := nn) (by omega) D A9 k c9 pq W P9 (by have := P9.len; omega) HPR)
  rw [hgd]
  obtain ⟨D', hD'⟩ : ∃ D', (if gd.1 ≠ 0 then (0 : Int) else D) = D' := ⟨_, rfl⟩
  have HDD := Lib.hid hD'
  have HO := Lib.hid (show ([] ++ ps) ++ ps' = pq by rw [List.nil_append]; exact hpq)
  have hB := below_step (below_step (below_alloc w (.cells #[.int .i64 D, .slice A n c] 24)) (below_alloc _ (.cells #[.int .i64 D, .slice A' n' c'] 24))) (below_alloc _ (.cells #[.int .i64 0, .slice none 0 0] 24))
  have X1 := ((SetBox.new w D A n c).alloc (.cells #[.int .i64 D, .slice A' n' c'] 24)).alloc (.cells #[.int .i64 0, .slice none 0 0] 24)
  have X2 := (SetBox.new (w.alloc (.cells #[.int .i64 D, .slice A n c] 24)) D A' n' c').alloc (.cells #[.int .i64 0, .slice none 0 0] 24)
  have X3 := SetBox.new ((w.alloc (.cells #[.int .i64 D, .slice A n c] 24)).alloc (.cells #[.int .i64 D, .slice A' n' c'] 24)) 0 none 0 0
  have P1 := h.step hB
  have P2 := h'.step hB
  have c0 := X1.c0
  have c1 := X1.c1
  have d0 := X2.c0
  have d1 := X2.c1
  simp only [World.size_alloc] at X2 X3 d0 d1
  have hm1 : ([] : List PEl).length + n ≤ 4000000000 := by simp; omega
  have hm2 : ([] ++ ps : List PEl).length + n' ≤ 4000000000 := by rw [List.nil_append, hl1]; omega
  have T1 : True := trivial
  clear h h' hv1 hv2 hvp hvq hgd hD' hnn hC hC' hpq HPR hl1 hl2 hp1 hp2 hpl
  go_enter Tryz.func15, Tryz.ntmps15
  go_wp2_with (first | (go_at_call 50; refine (ref_boths D A n c ps D A' n' c' ps' _ P1 P2).mono ?_; rintro e w1 ⟨rfl, hb⟩; rw [HE.out]; replace hB := below_step hB hb; replace P1 := P1.step hb; replace P2 := P2.step hb; replace X1 := X1.step hb; replace X2 := X2.step hb; replace X3 := X3.step hb; clear hb c0 c1 d0 d1; have c0 := X1.c0; have c1 := X1.c1; have d0 := X2.c0; have d1 := X2.c1; have HS1 := Lib.hid hB.size; have HL1 := Lib.hid X3.lt))
  have hb5 : Below w1.heap.size w1 (w1.alloc (.cells #[] 34)).drew := (below_alloc w1 (.cells #[] 34)).drew
  have HB5 := Lib.hid hb5
  have L0 : PL3 w1.heap.size (w1.alloc (.cells #[] 34)).drew (.slice (some ⟨w1.heap.size, 0, none⟩) 0 0) [] := pl3_empty (Nat.le_refl _) (heap_alloc_new w1 (.cells #[] 34))
  have C1 := P1.step hb5
  have HR2 := Lib.hid (fun p hp => (PieceAny.of_conds (P2.conds p hp) (Nat.le_refl _) : PieceAny w1.heap.size w1 p))
  have R1 := fun p hp => (PieceAny.of_conds (P1.conds p hp) (Nat.le_refl _) : PieceAny w1.heap.size w1 p).step hb5
  have hN1 := hb5.size
  have g0 := (X1.step hb5).c0
  have g1 := (X1.step hb5).c1
  have g2 := (X2.step hb5).c0
  have g3 := (X2.step hb5).c1
  clear hb5
  go_region_held3 (fun W => W.cell? ⟨w.heap.size, 0, none⟩ = some (.int .i64 D) ∧ W.cell? ⟨w.heap.size, 1, none⟩ = some (.slice A n c) ∧ W.cell? ⟨w.heap.size + 1, 0, none⟩ = some (.int .i64 D) ∧ W.cell? ⟨w.heap.size + 1, 1, none⟩ = some (.slice A' n' c')) (first | with_reducible exact ⟨c0, c1, d0, d1⟩ | with_reducible exact ⟨g0, g1, g2, g3⟩ | with_reducible exact ⟨y0, y1, z0, z1⟩ | with_reducible exact ⟨p0, p1, q0, q1⟩ | with_reducible exact ⟨v0, v1, s0, s1⟩ | with_reducible exact ⟨u0, u1, u2, u3⟩ | go_keep)
    (first
      | (go_at_call 47; refine (HMD.out A9 pq.length c9 w9 P9).mono ?_; rintro e w3 ⟨A3, k3, c3, qs, rfl, hP3, hok3, hd3, hA3, hb3⟩; rw [HDD.out]; have hx3 := (hb10.trans (hb3.mono hb10.size) : Below w1.heap.size w1 w3); have hB3 := below_step hB hx3; have Z3 := X3.step hx3; have r0 := Z3.c0; have r1 := Z3.c1; have f0 := Z3.f 0; have f1 := Z3.f 1; have v0 := (X1.step hx3).c0; have v1 := (X1.step hx3).c1; have s0 := (X2.step hx3).c0; have s1 := (X2.step hx3).c1; have U1 := put_far (X1.step hx3) (show w.heap.size ≠ w.heap.size + 1 + 1 by omega) (.int .i64 D') (.slice A3 k3 c3); have U2 := put_far (X2.step hx3) (show w.heap.size + 1 ≠ w.heap.size + 1 + 1 by omega) (.int .i64 D') (.slice A3 k3 c3); have u0 := U1.c0; have u1 := U1.c1; have u2 := U2.c0; have u3 := U2.c1; have HX3 := Lib.hid (And.intro hP3 (And.intro hok3 (And.intro hd3 (And.intro hA3 (And.intro hB3 hb10.size))))); clear hP3 hok3 hd3 hA3 hB3 hb3)
      | (have t1 := T1; clear T1 t1; refine step_append_pieces rfl _ _ 22 rfl rfl rfl L0 rfl C1 HC.out.1 R1 hm1 hN1 ?_; intro u7 w7 L7 hb7; have hb8 := (HB5.out.trans hb7 : Below w1.heap.size w1 w7); have C2 := P2.step hb8; have R2 := (fun p hp => (HR2.out p hp).step hb8); have y0 := (X1.step hb8).c0; have y1 := (X1.step hb8).c1; have z0 := (X2.step hb8).c0; have z1 := (X2.step hb8).c1; clear C1 R1 L0)
      | (refine step_append_pieces rfl _ _ 22 rfl rfl rfl L7 rfl C2 HC.out.2 R2 hm2 hb8.size ?_; intro u9 w9 L9 hb9; have hb10 := hb8.trans hb9; rw [HO.out] at L9; obtain ⟨A9, c9, hu9, P9, hg9⟩ := L9.pieces; subst hu9; have p0 := (X1.step hb10).c0; have p1 := (X1.step hb10).c1; have q0 := (X2.step hb10).c0; have q1 := (X2.step hb10).c1))
  all_goals
    obtain ⟨hP3, hok3, hd3, hA3, hB3, hs3⟩ := HX3.out
    have X4 := Z3.put D' A3 k3 c3
    have hku := Z3.keepU (.int .i64 D') (.slice A3 k3 c3)
    have hok4 := fun p hp => (hok3 p hp).keep hku
    have hz3 := X3.lt
    have hz4 := hb10.size
    have hP4 := pieces_move hP3 hok4 hku.size (fun h0 g o hA => by
      obtain ⟨g', o', h1, h2⟩ := hA3 h0
      rw [hA] at h1
      cases h1
      exact put_other (by omega) _ _)
    have hb4 := hB3.trans (below_put (w := w3) (N := w.heap.size) (b := w.heap.size + 1 + 1) (by omega) (.int .i64 D') (.slice A3 k3 c3))
    rename_i hHeld
    clear hHeld hku
    generalize (w3.setCell ⟨w.heap.size + 1 + 1, 0, none⟩ (.int .i64 D')).setCell ⟨w.heap.size + 1 + 1, 1, none⟩ (.slice A3 k3 c3) = w4 at *
    have v0 := X4.c0
    have v1 := X4.c1
    go_wp2
    refine bodyPost_ret (v := .tuple #[setV D' A3 k3 c3, .int .i64 gd.1]) (by simp [results, Tryz.results15, go_sem, v0, v1]) rfl ?_
    exact ⟨A3, k3, c3, qs, by rw [HDD.out], hP4, hok4, hd3, (fun h => let ⟨g, o, h1, h2⟩ := hA3 h; ⟨g, o, h1, by have := HS1.out; omega⟩), hb4⟩
end Go.Proofs.YtkgnlloioaobiaaGreat
namespace Go.Proofs.YtkgnlloioaobiaaGreat
open Go.ChangeShapes Go.WideShapes Go.ChangeAt Go.RowKit
def Concat3 (w : World) (e : Ending) (w' : World) (out : List CEl) : Prop := ∃ A c, e = .returned (.slice A out.length c) ∧ CL3 w.heap.size w' (.slice A out.length c) out ∧ Below w.heap.size w w'
set_option maxHeartbeats 4000000 in
theorem any_concat {b off m cm : Nat} {ps : List PEl} (w : World) (hP : PiecesAt w (some ⟨b, off, none⟩) m ps) (hsane : ∀ p ∈ ps, p.A = none → p.c = 0) (htot : (ps.flatMap PEl.els).length ≤ 100000) (hm : m ≤ 1000) :
    Calls Tryz.prog 52 #[.slice (some ⟨b, off, none⟩) m cm] w fun e w' => Concat3 w e w' (ps.flatMap PEl.els) := by
  have HR := Lib.hid (And.intro (fun (p : PEl) (hp : p ∈ ps) (e : CEl) (he : e ∈ p.els) => (RowAny.of_ints ((hP.conds p hp).ints e he) (Nat.le_refl _) : RowAny w.heap.size w e.A e.n)) hsane)
  have HL := Lib.hid hP.len
  have P1 := hP
  clear hsane
  go_enter Tryz.func52, Tryz.ntmps52
  go_wp2
  go_loop [3, 11] (fun u v => ∃ i : Nat, i ≤ m ∧ v = .int .i64 i ∧ u = .int .i64 (((ps.take i).flatMap PEl.els).length : Nat)) (fun _ v => m - (intOf v).toNat)
  case atStart => exact ⟨0, Nat.zero_le _, rfl, rfl⟩
  case round =>
    obtain ⟨i, hi', rfl, rfl⟩ := hrel
    by_cases hlt : i < m
    · obtain ⟨b1, off1, p, hA, hblt, hpj, hmem, hcell, hCp⟩ := P1.at hlt; cases hA; have HPJ := Lib.hid hpj; obtain ⟨pA, pn, pc, pels⟩ := p; simp only at hcell hCp; have hpl := hCp.len; have HF := Lib.hid (flat_snoc PEl.els hpj); have hle := flat_le PEl.els ps (i + 1); rw [flat_snoc PEl.els hpj, List.length_append] at hle; simp only at hle; have hq1 : (i : Int) < m := (by omega); have hps := hCp.small
      have HS := Lib.hid (show ((ps.take (i + 1)).flatMap PEl.els).length = ((ps.take i).flatMap PEl.els).length + pn by rw [HF.out, List.length_append]; exact congrArg _ hpl)
      generalize ((ps.take i).flatMap PEl.els).length = t at *
      clear hCp hmem hpj
      go_wp2
      go_round
      case rel => exact ⟨i + 1, by omega, by go_num, by rw [HS.out]; go_num⟩
      case measure => simp [intOf]; omega
    · obtain rfl : i = m := by omega
      have hge : ¬ ((i : Int) < i) := by omega
      have hall : ps.take i = ps := List.take_of_length_le (by rw [HL.out]; exact Nat.le_refl _)
      rw [hall]
      have HA := Lib.hid hall
      clear hall
      have HT := Lib.hid (rfl : (ps.flatMap PEl.els).length = (ps.flatMap PEl.els).length)
      obtain ⟨t, ht⟩ : ∃ t, (ps.flatMap PEl.els).length = t := ⟨_, rfl⟩
      have HTT := Lib.hid ht
      rw [ht] at htot ⊢
      clear ht
      have key : ∀ W, Calls Tryz.prog 78 #[.slice none 0 0, .int .i64 t] W fun e w' => ∃ u, e = .returned u ∧ CL3 W.heap.size w' u [] ∧ Below W.heap.size W w' := fun W => by
        rcases Nat.eq_zero_or_pos t with rfl | h0
        · refine (cgrow_zero W).mono ?_
          rintro e w' ⟨rfl, rfl⟩
          exact ⟨_, rfl, CL3.nil _ _, Below.refl _ _⟩
        · refine (cgrow_some 0 t h0 htot W).mono ?_
          rintro e w' ⟨u, rfl, hL, hB⟩
          exact ⟨u, rfl, .of_cl hL, hB⟩
      have HK := Lib.hid key
      clear key
      go_wp2_with (go_at_call 78; refine (HK.out _).mono ?_; rintro e w1 ⟨u, rfl, hL, hB⟩)
      go_loopw [6, 27] (fun u v wr => ∃ j : Nat, j ≤ i ∧ v = .int .i64 j ∧ CL3 w.heap.size wr u ((ps.take j).flatMap PEl.els) ∧ Below w.heap.size w wr) (fun _ v _ => i - (intOf v).toNat)
      case atStart => exact ⟨0, Nat.zero_le _, rfl, hL, hB⟩
      case round =>
        clear hL hB
        obtain ⟨j, hj, rfl, hL, hB⟩ := hrel
        by_cases hlt : j < i
        · obtain ⟨b1, off1, p, hA, hblt, hpj, hmem, hcell, hCp⟩ := (P1.step hB).at hlt
          cases hA
          have hro := fun e he => (HR.out.1 p hmem e he).step hB
          have hsa := HR.out.2 p hmem
          have HPJ := Lib.hid hpj
          obtain ⟨pA, pn, pc, pels⟩ := p
          simp only at hcell hCp hro hsa
          have hpl := hCp.len
          have HF := Lib.hid (flat_snoc PEl.els hpj)
          have hle := flat_le PEl.els ps (j + 1)
          rw [flat_snoc PEl.els hpj, List.length_append, HTT.out] at hle
          simp only at hle
          have hq1 : (j : Int) < i := by omega
          have hps := hCp.small
          have hsum : ((ps.take j).flatMap PEl.els).length + pn ≤ 100000 := by omega
          have hN := hB.size
          clear hmem hpj hle
          go_wp2_with (at_builtin; refine wpList_append_any rfl _ _ 34 rfl rfl rfl hL rfl hCp hsa hro hsum hN ?_; intro u9 w9 L9 hb9; have hB9 := hB.trans hb9)
          go_roundw
          case rel => exact ⟨j + 1, by omega, by go_num, by rw [HF.out]; exact L9, hB9⟩
          case measure => simp [intOf]; omega
        · obtain rfl : j = i := by omega
          have hge : ¬ ((j : Int) < j) := by omega
          rw [HA.out] at hL
          obtain ⟨A9, c9, hu⟩ := hL.slice
          rw [HTT.out] at hu
          subst hu
          have HLL := Lib.hid hL
          clear hL
          go_wp2
          go_ret
          exact ⟨A9, c9, by rw [HTT.out]; rfl, by rw [HTT.out]; exact HLL.out, hB⟩
set_option maxHeartbeats 4000000 in
theorem ref_and3 (pA : Option Addr) (pn pc : Nat) (pels : List CEl) (qA : Option Addr) (qn qc : Nat) (qels : List CEl) (w : World) (hp : CondsAt w pA pn pels) (hq : CondsAt w qA qn qels) (hpc : pA = none → pc = 0) (hqc : qA = none → qc = 0) (hl : pels.length + qels.length ≤ 1000) :
    Calls Tryz.prog 53 #[.slice pA pn pc, .slice qA qn qc] w fun e w' => Concat3 w e w' (pels ++ qels) := by
  have hB0 := below_alloc w (.cells #[] 56)
  have HL0 := cl3_empty (N := w.heap.size) (w := w.alloc (.cells #[] 56)) (g := w.heap.size) (Nat.le_refl _) (heap_alloc_new w (.cells #[] 56))
  have C0 := hp.step hB0
  have HQ := Lib.hid hq
  have R0 := fun e he => (RowAny.of_ints (hp.ints e he) (Nat.le_refl _)).step hB0
  have HR1 := Lib.hid (fun e (he : e ∈ qels) => (RowAny.of_ints (hq.ints e he) (Nat.le_refl _) : RowAny w.heap.size w e.A e.n))
  have e0 : pels.length = pn := hp.len
  have e1 : qels.length = qn := hq.len
  have h1 : ([] : List CEl).length + pn ≤ 100000 := by simp; omega
  have h2 : ([] ++ pels : List CEl).length + qn ≤ 100000 := by simp; omega
  have HN := Lib.hid hB0.size
  have HB := Lib.hid hB0
  obtain ⟨out, hout⟩ : ∃ out, pels ++ qels = out := ⟨_, rfl⟩
  rw [hout]
  have HO := Lib.hid (show ([] ++ pels) ++ qels = out by rw [List.nil_append]; exact hout)
  have T1 : True := trivial
  clear hp hq hout hB0 e0 e1 hl
  go_enter Tryz.func53, Tryz.ntmps53
  go_wp2_with (first
    | (at_builtin; have t1 := T1; clear T1 t1; refine wpList_append_any rfl _ _ 34 rfl rfl rfl HL0 rfl C0 hpc R0 h1 HN.out ?_; intro u7 w7 L7 hb7; have hq7 := HQ.out.step (HB.out.trans hb7); have hr7 := (fun e he => (HR1.out e he).step (HB.out.trans hb7)); clear h1)
    | (at_builtin; refine wpList_append_any rfl _ _ 34 rfl rfl rfl L7 rfl hq7 hqc hr7 h2 (Nat.le_trans HN.out hb7.size) ?_; intro u9 w9 L9 hb9; rw [HO.out] at L9; obtain ⟨A9, c9, hu9⟩ := L9.slice; subst hu9; have hb := HB.out.trans (hb7.trans hb9)))
  go_ret
  exact ⟨A9, c9, rfl, L9, hb⟩
end Go.Proofs.YtkgnlloioaobiaaGreat
namespace Go.Proofs.YtkgnlloioaobiaaGreat
open Go.RowKit
def SeqFresh {α : Type} (F : Fence) (n : Nat) (P : Program) (gf : Nat) (lb : Array Value) (encs : α → Array Value) (R : α → World → Prop) (Kp : World → World → Prop) (S Sp : List α → Prop) (N : Nat) (w : World) : Prop :=
  ∀ (l : Nat) (J Jx : List α → World → Prop) (W : World), Below w.heap.size w W → AbidesFrom W.heap.size J → AbidesFrom W.heap.size Jx →
    (∀ done x V, J done V → R x V → done.length < N → YieldAt F (n - 1) P l (encs x) V fun e V' =>
      (e = .returned (.bool true) ∧ J (done ++ [x]) V' ∧ Kp V V') ∨ (e = .returned (.bool false) ∧ Jx (done ++ [x]) V')) →
    J [] W → CallsIn F n P gf (#[.func (.yield l) #[] #[]] ++ lb) W fun e V => (∃ v, e = .returned v) ∧ ((∃ ys, S ys ∧ J ys V) ∨ (∃ done, Sp done ∧ Jx done V))
section
variable {F : Fence} {n : Nat} {P : Program} {α : Type}
theorem round_ends {B l : Nat} {V W : World} {busy : Loop} (hl : B ≤ l) (hV : V.heap[l]? = some (.loop busy)) (hd : V.heap[B]? = some (.deferred (some []))) (hne : B ≠ l) (hst : busy.state = .busy) (hk : KeepsFrom B V W) (jump : Option Code) :
    ∃ r, r = (if jump.isNone then { busy with state := .ready, pending := jump } else { busy with state := .done, pending := jump } : Loop) ∧ (Instr.endRound l jump).run P W = .ok (.bool jump.isNone) (W.putObj l (.loop r)) ∧ W.heap[l]? = some (.loop busy) ∧ (W.putObj l (.loop r)).heap[l]? = some (.loop r) ∧ (W.putObj l (.loop r)).heap[B]? = some (.deferred (some [])) := by
  have h1 := hk.same l _ hl hV rfl
  refine ⟨_, rfl, ?_, h1, World.putObj_heap_same (Array.getElem?_eq_some_iff.1 h1).1, (World.putObj_heap_other hne).trans (hk.same B _ (Nat.le_refl _) hd rfl)⟩
  have := run_endRound (P := P) jump h1
  cases jump <;> exact this
theorem range_fresh {g : Operand} {ps : Array Tmp} {assign body : Code} {Q : Exit → Act → World → Prop} {a : Act} {w : World}
    (hro : F.round = none) (h1 : 1 ≤ n) {gf : Nat} {lb : Array Value} (hg : a.eval g = .func (.func gf) #[] lb) (hFg : F.fn gf) (eg : ∀ args w, (callFunc gf args).run P w = .ok (.enter gf args) w)
    {encs : α → Array Value} {R : α → World → Prop} {Kp : World → World → Prop} {S Sp : List α → Prop} {N : Nat} {w0 : World} (hseq : SeqFresh F (n - 1) P gf lb encs R Kp S Sp N w0)
    (hR : ∀ x (W : World) (l : Nat) (o o' : Obj), R x W → W.heap[l]? = some o → o.isCells = false → R x (W.putObj l o'))
    (hKt : ∀ {A B C : World}, Kp A B → Kp B C → Kp A C) (hKb : ∀ (W : World) (l : Nat) (o o' : Obj), w.heap.size ≤ l → W.heap[l]? = some o → o.isCells = false → o.isWalk = false → Kp W (W.putObj l o')) (hb0 : Below w0.heap.size w0 w) (hps : ∀ x, (encs x).size = ps.size)
    (I : List α → World → Prop) (Ix : Code → List α → World → Prop) (hI : OwnFrom w.heap.size I) (hIx : ∀ c, OwnFrom w.heap.size (Ix c)) (h0 : I [] w) (a₁ : α → Act)
    (hassign : ∀ (l : Nat) (x : α) (W : World) (K : Act → World → Prop), K (a₁ x) W →
      assign.wpIn (F.inRound l) (n - 1 - 1) P (Exit.then K (fun _ _ _ => False)) { tmps := (ps.zip (encs x)).foldl (fun t (p, v) => t.setIfInBounds p v) a.tmps, defers := [] } W)
    (hbody : ∀ (l : Nat) (done : List α) (x : α) (W : World), I done W → R x W → done.length < N → body.wpIn (F.inRound l) (n - 1 - 1) P (ownPostG w.heap.size Kp I Ix (done ++ [x]) W) (a₁ x) W)
    (hdone : ∀ (D : Nat) (ys : List α) (W : World), w.heap.size ≤ D → S ys → I ys W → W.heap[D]? = some (.deferred (some [])) → Q .normal { a with defers := { target := .collected D, args := #[] } :: a.defers } W)
    (hstop : ∀ (D : Nat) (c : Code) (done : List α) (W : World), w.heap.size ≤ D → Sp done → Ix c done W → W.heap[D]? = some (.deferred (some [])) → c.wpIn F n P Q { a with defers := { target := .collected D, args := #[] } :: a.defers } W) :
    (Code.rangeFunc g ps assign body).wpIn F n P Q a w := by
  refine wpIn_rangeFunc fun fn hfn => ?_
  rw [hro]
  obtain ⟨D, hD⟩ : ∃ D, w.heap.size = D := ⟨_, rfl⟩
  obtain ⟨mk, hmk⟩ : ∃ mk : LoopState → Option Code → Loop, mk = fun st pe => { state := st, pending := pe, fn, tmps := a.tmps, params := ps, assign, body, defers := w.heap.size } := ⟨_, rfl⟩
  obtain ⟨V0, hV0⟩ : ∃ V0, (w.alloc (.deferred (some []))).alloc (.loop (mk .ready none)) = V0 := ⟨_, rfl⟩
  have hrec : V0.heap[D + 1]? = some (.loop (mk .ready none)) := by
    rw [← hV0, ← hD]
    have := World.alloc_heap_new (w.alloc (.deferred (some []))) (.loop (mk .ready none))
    rwa [World.size_alloc] at this
  have hdef : V0.heap[D]? = some (.deferred (some [])) := by
    rw [← hV0, ← hD]
    exact (Below.heap_alloc _ _ _ (by simp)).trans (World.alloc_heap_new w _)
  have hsz : V0.heap.size = D + 2 := by rw [← hV0, ← hD]; simp
  rw [hD] at hI hIx
  have hI0 : I [] V0 := by
    rw [← hV0]
    exact hI.alloc _ (hI.alloc _ h0)
  have hbel : Below w0.heap.size w0 V0 := by
    rw [← hV0]
    exact hb0.trans ((((Below.refl _ w).alloc (Nat.le_refl _) _).alloc (by simp) _).mono hb0.size)
  let J : List α → World → Prop := fun done V => I done V ∧ V.heap[D + 1]? = some (.loop (mk .ready none)) ∧ V.heap[D]? = some (.deferred (some []))
  let Jx : List α → World → Prop := fun done V => ∃ c, Ix c done V ∧ V.heap[D + 1]? = some (.loop (mk .done (some c))) ∧ V.heap[D]? = some (.deferred (some []))
  have hfar : ∀ {A : World} {row : Option Nat}, (∀ r, row = some r → V0.heap.size ≤ r ∧ ∃ o : Obj, A.heap[r]? = some o ∧ o.isWalk = true) → ∀ r, row = some r → D ≤ r ∧ ∃ o : Obj, A.heap[r]? = some o ∧ o.isCells = false := fun h r e => by
    obtain ⟨hr, o, ho, hw⟩ := h r e
    exact ⟨by omega, o, ho, Obj.not_cells_of_walk hw⟩
  have hJ : AbidesFrom V0.heap.size J := fun s A B row h hgr hr =>
    ⟨hI s A B row h.1 hgr (hfar hr), (grownBy_keeps hgr (fun r e => (hr r e).2) h.2.1 rfl).trans h.2.1, (grownBy_keeps hgr (fun r e => (hr r e).2) h.2.2 rfl).trans h.2.2⟩
  have hJx : AbidesFrom V0.heap.size Jx := fun s A B row h hgr hr => by
    obtain ⟨c, hc, h2, h3⟩ := h
    exact ⟨c, hIx c s A B row hc hgr (hfar hr), (grownBy_keeps hgr (fun r e => (hr r e).2) h2 rfl).trans h2, (grownBy_keeps hgr (fun r e => (hr r e).2) h3 rfl).trans h3⟩
  have hround : ∀ done x V, J done V → R x V → done.length < N → YieldAt F (n - 1 - 1) P (D + 1) (encs x) V fun e V' =>
      (e = .returned (.bool true) ∧ J (done ++ [x]) V' ∧ Kp V V') ∨ (e = .returned (.bool false) ∧ Jx (done ++ [x]) V') := by
    rintro done x V ⟨hi, hl, hk⟩ hrx hlen
    have hy := run_yield (P := P) (args := encs x) hl (by rw [hmk]; exact hps x)
    obtain ⟨V2, hV2⟩ : ∃ V2, V.putObj (D + 1) (.loop { mk .ready none with state := .busy }) = V2 := ⟨_, rfl⟩
    have hl2 : V2.heap[D + 1]? = some (.loop { mk .ready none with state := .busy }) := by rw [← hV2]; exact World.putObj_heap_same (Array.getElem?_eq_some_iff.1 hl).1
    have hk2 : V2.heap[D]? = some (.deferred (some [])) := by rw [← hV2]; exact (World.putObj_heap_other (by omega)).trans hk
    have hi2 : I done V2 := by rw [← hV2]; exact hI.putObj _ hi (by omega) hl rfl
    have hkp2 : Kp V V2 := by rw [← hV2]; exact hKb _ _ _ _ (by omega) hl rfl rfl
    have hr2 : R x V2 := by rw [← hV2]; exact hR x V _ _ _ hrx hl rfl
    have hbeg := run_beginRound (P := P) hl (by rw [hmk])
    rw [hV2] at hbeg
    rw [hmk] at hy
    refine ⟨fn, _, assign, body, hy, roundIn_of_wpIn hfn (hassign _ x V _ ⟨V2, hbeg, ?_⟩)⟩
    refine wpIn_mono (hbody (D + 1) done x V2 hi2 hr2 hlen) ?_
    rw [hD]
    rintro e a3 V3 hp
    have stop : ∀ c : Code, KeepsFrom D V2 V3 → Ix c (done ++ [x]) V3 → ∃ r V4, (Instr.endRound (D + 1) (some c)).run P V3 = .ok r V4 ∧ ((Ending.returned r = .returned (.bool true) ∧ J (done ++ [x]) V4 ∧ Kp V V4) ∨ (Ending.returned r = .returned (.bool false) ∧ Jx (done ++ [x]) V4)) := fun c hkf hx => by
      obtain ⟨r, hr, hrun, hl3, hl4, hk4⟩ := round_ends (P := P) (by omega) hl2 hk2 (by omega) rfl hkf (some c)
      exact ⟨_, _, hrun, .inr ⟨rfl, c, (hIx c).putObj _ hx (by omega) hl3 rfl, by rw [hl4, hr, hmk]; rfl, hk4⟩⟩
    cases e with
    | normal =>
      obtain ⟨hkf, hkp3, hi3⟩ := hp
      obtain ⟨r, hr, hrun, hl3, hl4, hk4⟩ := round_ends (P := P) (by omega) hl2 hk2 (by omega) rfl hkf none
      refine ⟨_, _, hrun, .inl ⟨rfl, ⟨hI.putObj _ hi3 (by omega) hl3 rfl, by rw [hl4, hr, hmk]; rfl, hk4⟩, hKt (hKt hkp2 hkp3) (hKb _ _ _ _ (by omega) hl3 rfl rfl)⟩⟩
    | ret => exact stop .ret hp.1 hp.2
    | exit id => exact stop (.exit id) hp.1 hp.2
    | goto t => exact stop (.goto t) hp.1 hp.2
    | panic ch => exact hp.elim
    | outgrown => exact hp.elim
  refine ⟨D + 1, [{ target := .collected D, args := #[] }], V0, { target := .fn (.func gf) lb, args := #[.func (.yield (D + 1)) #[] #[]] }, V0, gf,
    #[.func (.yield (D + 1)) #[] #[]] ++ lb, V0, ?_, ?_, ?_, ?_, fun _ => h1, ?_⟩
  · rw [← hV0, hmk, ← hD]; exact run_enterLoop_outer _ _ _ _ _
  · simp only [resolve, hg]
    simp [go_sem]
  · intro f' hf'
    simp [Target.leads] at hf'
    subst hf'
    exact hFg
  · simp [invoke, go_sem, eg]
  · refine (hseq (D + 1) J Jx V0 hbel hJ hJx hround ⟨hI0, hrec, hdef⟩).mono ?_
    rintro e V ⟨⟨v, rfl⟩, (⟨ys, hS, hi, hl, hk⟩ | ⟨done, hSp, c, hi, hl, hk⟩)⟩
    · refine ⟨none, _, by have := run_endLoop (P := P) hl (by rw [hmk]; simp); rw [hmk] at this; exact this, ?_⟩
      exact hdone _ ys _ (by omega) hS (hI.putObj _ hi (by omega) hl rfl) ((World.putObj_heap_other (by omega)).trans hk)
    · refine ⟨some c, _, by have := run_endLoop (P := P) hl (by rw [hmk]; simp); rw [hmk] at this; exact this, ?_⟩
      exact hstop _ c done _ (by omega) hSp ((hIx c).putObj _ hi (by omega) hl rfl) ((World.putObj_heap_other (by omega)).trans hk)
end
end Go.Proofs.YtkgnlloioaobiaaGreat
namespace Go.Proofs.YtkgnlloioaobiaaGreat
open Go.RowKit Go.Shelf
attribute [local go_sem] Oper.semAt_some
def fEnc (x : PEl) : Array Value := #[.slice x.A x.n x.c]
def Fresh (n : Nat) (x : PEl) (W : World) : Prop := CondsAt W x.A x.n x.els ∧ (∀ e ∈ x.els, PreB n e) ∧ x.n ≤ 1000
theorem IntsAt.kept {W W' : World} {A : Option Addr} {n : Nat} {xs : List Int} (h : IntsAt W A n xs) (hs : W.heap.size ≤ W'.heap.size) (hc : ∀ a v, W.cell? a = some v → W'.cell? a = some v) : IntsAt W' A n xs :=
  ⟨h.len, h.small, h.wf, fun hn => let ⟨b, off, hA, hlt, hx⟩ := h.cells hn; ⟨b, off, hA, Nat.lt_of_lt_of_le hlt hs, fun j hj => hc _ _ (hx j hj)⟩⟩
theorem CondsAt.kept {W W' : World} {A : Option Addr} {m : Nat} {els : List CEl} (h : CondsAt W A m els) (hs : W.heap.size ≤ W'.heap.size) (hc : ∀ a v, W.cell? a = some v → W'.cell? a = some v) : CondsAt W' A m els :=
  ⟨h.len, h.small, fun hm => let ⟨b, off, hA, hlt, hx⟩ := h.cells hm; ⟨b, off, hA, Nat.lt_of_lt_of_le hlt hs, fun j e he => let ⟨a0, a1, a2, a3⟩ := hx j e he; ⟨hc _ _ a0, hc _ _ a1, hc _ _ a2, hc _ _ a3⟩⟩, fun e he => (h.ints e he).kept hs hc⟩
theorem cell_putObj {W : World} {l : Nat} {o o' : Obj} (hl : W.heap[l]? = some o) (ho : o.isCells = false) (a : Addr) (v : Value) (h : W.cell? a = some v) : (W.putObj l o').cell? a = some v := by
  have hne : a.block ≠ l := fun e => by
    rw [← e] at hl
    unfold World.cell? at h
    rw [hl] at h
    cases o <;> simp_all [Obj.isCells]
  have hb : (W.putObj l o').heap[a.block]? = W.heap[a.block]? := World.putObj_heap_other hne
  rw [← h]
  exact World.cell?_of_block hb
theorem Fresh.putObj {n : Nat} {x : PEl} {W : World} {l : Nat} {o o' : Obj} (h : Fresh n x W) (hl : W.heap[l]? = some o) (ho : o.isCells = false) : Fresh n x (W.putObj l o') :=
  ⟨h.1.kept (grownBy_putObj' W l o').size (cell_putObj hl ho), h.2⟩
set_option maxRecDepth 100000 in
set_option maxHeartbeats 8000000 in
theorem gathered_fresh {n : Nat} (hn : n ≤ 100) (D : Int) (L : List (List CD)) (w : World) (gf : FuncId) (lb : Array Value) (hent : Enters Tryz.prog gf)
    (hseq : ∀ w2, Below w.heap.size w w2 → SeqFresh Fence.wide 4 Tryz.prog gf lb fEnc (Fresh n) (KpS w.heap.size) (fun ys => ys.map PEl.dat = L) (fun pre => ∃ k, pre.map PEl.dat = L.take k) L.length w2) :
    Calls Tryz.prog 44 #[.int .i64 D, .func (.func gf) #[] lb] w fun e w' => GatherRet n w e w' D (gatherD n L) := by
  have hro : Fence.wide.round = none := rfl
  have h1 : 1 ≤ 5 := by omega
  refine (callsIn_wide (n := 5)).1 ?_
  refine callsIn_of_wp_marks Tryz.func44 rfl trivial ?_ hro
  simp only [Tryz.ntmps44, List.size_toArray, List.length_cons, List.length_nil, Nat.reduceAdd, Nat.reduceSub, Array.replicate_succ, Array.replicate_zero, List.push_toArray, List.append_toArray, List.nil_append, List.cons_append]
  gi_wp2_with (refine ⟨trivial, ?_⟩; gi_at_call 73; refine (callsIn_wide.2 (union_new n _)).mono ?_; rintro e w1 ⟨⟨b, r, rfl, U1⟩, hb1⟩)
  generalize hO : (w.alloc (.cells #[.int .i64 0, .slice none 0 0] 24)).alloc (.cells #[.int .i64 0] 27) = w0 at *
  have hs0 : w0.heap.size = w.heap.size + 2 := by rw [← hO]; simp
  have Z0 : Zed w.heap.size w0 := by
    rw [← hO]
    refine ⟨(Below.heap_alloc _ _ _ (by simp)).trans (heap_alloc_new w _), ?_⟩
    have := heap_alloc_new (w.alloc (.cells #[.int .i64 0, .slice none 0 0] 24)) (.cells #[.int .i64 0] 27)
    rw [World.size_alloc] at this
    exact this
  have hB0 : Below w.heap.size w w0 := by rw [← hO]; exact ((Below.refl _ w).alloc (Nat.le_refl _) _).alloc (by simp) _
  clear hO
  have Z1 : Zed w.heap.size w1 := ⟨(hb1.block _ (by omega)).trans Z0.1, (hb1.block _ (by omega)).trans Z0.2⟩
  have hB1 : Below w.heap.size w w1 := hB0.trans (hb1.mono (by omega))
  have b2 := below_alloc w1 (.cells #[.pointer (some ⟨b, 0, none⟩)] 84)
  have PB : PBox w1.heap.size b (w1.alloc (.cells #[.pointer (some ⟨b, 0, none⟩)] 84)) := heap_alloc_new w1 _
  have U2 := U1.step b2
  have hs1 := hb1.size
  have Z2 : Zed w.heap.size (w1.alloc (.cells #[.pointer (some ⟨b, 0, none⟩)] 84)) := ⟨(b2.block _ (by omega)).trans Z1.1, (b2.block _ (by omega)).trans Z1.2⟩
  have hB2 : Below w.heap.size w (w1.alloc (.cells #[.pointer (some ⟨b, 0, none⟩)] 84)) := hB1.trans (b2.mono (by omega))
  have hr1 := U1.lt
  have hs2 : (w1.alloc (.cells #[.pointer (some ⟨b, 0, none⟩)] 84)).heap.size = w1.heap.size + 1 := by simp
  generalize w1.alloc (.cells #[.pointer (some ⟨b, 0, none⟩)] 84) = w2 at *
  clear Z0 Z1 hB0 hB1 b2 hb1 U1
  refine range_fresh hro h1 (gf := gf) (lb := lb) rfl trivial hent
    (hseq w2 hB2) (fun x W l o o' h h1 h2 => h.putObj h1 h2) (fun h h' => kpS_t h h') (fun W l o o' h1 h2 h3 h4 => ⟨belowK_b (w := w2) (by omega) W l o o' h1 h2 h3 h4, SetsStay.putObj h2 h3⟩) (Below.refl _ _) (fun _ => rfl)
    (fun pre W => ((∃ u us, UN n w0.heap.size W b u r us ∧ gatherD n (pre.map PEl.dat) = (0, us.map PEl.dat)) ∧ Zed w.heap.size W ∧ PBox w1.heap.size b W) ∧ Below w.heap.size w W)
    (fun cd pre W => (cd = .ret ∧ ∃ er l, gatherD n (pre.map PEl.dat) = (er, l) ∧ er ≠ 0 ∧ W.heap[w.heap.size]? = some (.cells #[.int .i64 0, .slice none 0 0] 24 (0, 0)) ∧ W.heap[w.heap.size + 1]? = some (.cells #[.int .i64 er] 27 (0, 0))) ∧ Below w.heap.size w W)
    ?own1 ?own2 ?start
    (fun x => { tmps := #[.int .i64 D, .func (.func gf) #[] lb, undef, undef, .pointer (some ⟨w.heap.size, 0, none⟩), .pointer (some ⟨w.heap.size + 1, 0, none⟩), .pointer (some ⟨w1.heap.size, 0, none⟩), .slice x.A x.n x.c, undef,
      .pointer (some ⟨b, 0, none⟩), .func (.func gf) #[] lb, .slice x.A x.n x.c, undef, undef, undef, undef, undef, undef, undef, undef, undef, undef, undef], defers := [] }) ?assign ?body ?done ?stop
  case own1 => exact OwnFrom.and (OwnFrom.and (fun s V V' row hs hg hr => by obtain ⟨u, us, hU, hx⟩ := hs; exact ⟨u, us, hU.turn (by omega) hg hr, hx⟩) (OwnFrom.and (Own.from (Zed.own _) _) (Own.from (PBox.own _ _) _))) (ownFrom_below (Nat.le_refl _) (by omega))
  case own2 =>
    intro cd
    refine OwnFrom.and (Own.from (fun s V V' row hs hg hr => ?_) _) (ownFrom_below (Nat.le_refl _) (by omega))
    obtain ⟨hc, er, l, h2, h3, h4, h5⟩ := hs
    refine ⟨hc, er, l, h2, h3, (hg.block _ (Array.getElem?_eq_some_iff.1 h4).1 fun e => ?_).trans h4, (hg.block _ (Array.getElem?_eq_some_iff.1 h5).1 fun e => ?_).trans h5⟩
    · obtain ⟨o, ho, hf⟩ := hr _ e.symm
      rw [h4] at ho
      cases ho
      cases hf
    · obtain ⟨o, ho, hf⟩ := hr _ e.symm
      rw [h5] at ho
      cases ho
      cases hf
  case start => exact ⟨⟨⟨_, [], U2, rfl⟩, Z2, PB⟩, hB2⟩
  case assign =>
    intro l x W K hK
    dsimp only [fEnc]
    gi_wp2
    exact hK
  case body =>
    rintro l pre x W ⟨⟨⟨u, us, hU, hg⟩, hZ, hPB⟩, hB⟩ ⟨hC, hx⟩ _
    have hN := hU.lt
    obtain ⟨er, l', hadd⟩ : ∃ er l', addD n (us.map PEl.dat) (x.els.map CEl.d) = (er, l') := ⟨_, _, rfl⟩
    have HG := Lib.hid ((gather_next hg x.dat).trans hadd)
    have HN := Lib.hid (show w0.heap.size ≤ W.heap.size by have := (Array.getElem?_eq_some_iff.1 hZ.2).1; omega)
    have HA := Lib.hid (union_adds (c := x.c) hn W hU hC hx.1 hx.2 HN.out hadd)
    have c6 : W.cell? ⟨w1.heap.size, 0, none⟩ = some (.pointer (some ⟨b, 0, none⟩)) := by rw [cell_of_row W _ 0 _ _ (0, 0) hPB]; rfl
    have HZ := Lib.hid hZ
    have HPB := Lib.hid hPB
    clear hadd hg hx hC hZ hPB
    by_cases h0 : er = 0
    · subst h0
      gi_wp2_with (refine ⟨trivial, ?_⟩; gi_at_call 74; refine (CallsIn.inRound l (callsIn_wide.2 HA.out)).mono ?_; rintro e w' ⟨rfl, ⟨u', us', hl', hU'⟩, hb', hk'⟩)
      have hZ' : Zed w.heap.size w' := ⟨(hb'.block _ (by omega)).trans HZ.out.1, (hb'.block _ (by omega)).trans HZ.out.2⟩
      have hPB' : PBox w1.heap.size b w' := hk'.u.rows _ _ _ _ HPB.out (.inr (.inr rfl))
      have hb9 : Below w.heap.size W w' := hb'.mono (by omega)
      refine ⟨hk'.from (by omega), ⟨hb9, hk'.s⟩, ⟨⟨u', us', hU', ?_⟩, hZ', hPB'⟩, hB.trans hb9⟩
      rw [List.map_append, hl']
      exact HG.out
    · have h0' : (er != 0) = true := by simpa using h0
      have h0'' : (er == 0) = false := by simpa using h0
      have HE := Lib.hid h0
      clear h0
      gi_wp2_with (refine ⟨trivial, ?_⟩; gi_at_call 74; refine (CallsIn.inRound l (callsIn_wide.2 HA.out)).mono ?_; rintro e w' ⟨rfl, ⟨u', us', hl', hU'⟩, hb', hk'⟩; have hZ' : Zed w.heap.size w' := (⟨(hb'.block _ (by omega)).trans HZ.out.1, (hb'.block _ (by omega)).trans HZ.out.2⟩); have z0 : w'.cell? ⟨w.heap.size, 0, none⟩ = some (.int .i64 0) := (by rw [cell_of_row w' _ 0 _ _ (0, 0) hZ'.1]; rfl); have z1 : w'.cell? ⟨w.heap.size, 1, none⟩ = some (.slice none 0 0) := (by rw [cell_of_row w' _ 1 _ _ (0, 0) hZ'.1]; rfl); have z2 : w'.cell? ⟨w.heap.size + 1, 0, none⟩ = some (.int .i64 0) := (by rw [cell_of_row w' _ 0 _ _ (0, 0) hZ'.2]; rfl); have f0 : w'.frozen? ⟨w.heap.size, 0, none⟩ = false := (by simp [World.frozen?, hZ'.1]); have f1 : w'.frozen? ⟨w.heap.size, 1, none⟩ = false := (by simp [World.frozen?, hZ'.1]); have f2 : w'.frozen? ⟨w.heap.size + 1, 0, none⟩ = false := (by simp [World.frozen?, hZ'.2]); have HZ2 := Lib.hid hZ'; clear hZ')
      obtain ⟨⟨y1, y2⟩, yk, yb, _⟩ := zed_set HZ2.out (.int .i64 0) (.slice none 0 0) (.int .i64 er)
      refine ⟨(hk'.from (by omega)).trans (yk.from _), ⟨rfl, er, l', ?_, HE.out, y1, y2⟩, hB.trans ((hb'.mono (by omega)).trans yb)⟩
      rw [List.map_append]
      exact HG.out
  case done =>
    rintro D' ys W hD hS ⟨⟨⟨u, us, hU, hg⟩, hZ, hPB⟩, hB⟩ hK'
    have HS := Lib.hid hS
    clear hS
    have c6 : W.cell? ⟨w1.heap.size, 0, none⟩ = some (.pointer (some ⟨b, 0, none⟩)) := by rw [cell_of_row W _ 0 _ _ (0, 0) hPB]; rfl
    have z0 : W.cell? ⟨w.heap.size, 0, none⟩ = some (.int .i64 0) := by rw [cell_of_row W _ 0 _ _ (0, 0) hZ.1]; rfl
    have z1 : W.cell? ⟨w.heap.size, 1, none⟩ = some (.slice none 0 0) := by rw [cell_of_row W _ 1 _ _ (0, 0) hZ.1]; rfl
    have z2 : W.cell? ⟨w.heap.size + 1, 0, none⟩ = some (.int .i64 0) := by rw [cell_of_row W _ 0 _ _ (0, 0) hZ.2]; rfl
    have f0 : W.frozen? ⟨w.heap.size, 0, none⟩ = false := by simp [World.frozen?, hZ.1]
    have f1 : W.frozen? ⟨w.heap.size, 1, none⟩ = false := by simp [World.frozen?, hZ.1]
    have f2 : W.frozen? ⟨w.heap.size + 1, 0, none⟩ = false := by simp [World.frozen?, hZ.2]
    have HA := Lib.hid (union_pieces W hU)
    obtain ⟨uA, uc, rfl⟩ := hU.slice
    have HG := Lib.hid hg
    have HZ := Lib.hid hZ
    have HPB := Lib.hid hPB
    have HU := Lib.hid hU
    clear hg hZ hPB hU
    gi_wp2_with (refine ⟨trivial, ?_⟩; gi_at_call 75; refine (callsIn_wide.2 HA.out).mono ?_; rintro e w' ⟨rfl, rfl⟩)
    obtain ⟨⟨y1, y2⟩, yk, yb, yu⟩ := zed_set HZ.out (.int .i64 D) (.slice uA us.length uc) (.int .i64 0)
    have hK2 := yk.same D' _ hK' rfl
    have hU3 := yu (N := w0.heap.size) (by omega) HU.out
    refine ⟨by simp, .inl ⟨_, _, rfl, run_takeDeferred hK2, ?_⟩⟩
    generalize ((W.setCell ⟨w.heap.size, 0, none⟩ (.int .i64 D)).setCell ⟨w.heap.size, 1, none⟩ (.slice uA us.length uc)).setCell ⟨w.heap.size + 1, 0, none⟩ (.int .i64 0) = W3 at *
    have hg3 := grownBy_putObj' W3 D' (.deferred none)
    have hr3 : ∀ j, some D' = some j → w2.heap.size ≤ j ∧ ∃ o : Obj, W3.heap[j]? = some o ∧ o.isCells = false := fun j e => by cases e; exact ⟨hD, _, hK2, rfl⟩
    have hU4 := hU3.turn (by omega) hg3 hr3
    have y1' : (W3.putObj D' (.deferred none)).heap[w.heap.size]? = some (.cells #[.int .i64 D, .slice uA us.length uc] 24 (0, 0)) := (World.putObj_heap_other (by omega)).trans y1
    have y2' : (W3.putObj D' (.deferred none)).heap[w.heap.size + 1]? = some (.cells #[.int .i64 0] 27 (0, 0)) := (World.putObj_heap_other (by omega)).trans y2
    have hc0 : (W3.putObj D' (.deferred none)).cell? ⟨w.heap.size, 0, none⟩ = some (.int .i64 D) := by rw [cell_of_row _ _ 0 _ _ (0, 0) y1']; rfl
    have hc1 : (W3.putObj D' (.deferred none)).cell? ⟨w.heap.size, 1, none⟩ = some (.slice uA us.length uc) := by rw [cell_of_row _ _ 1 _ _ (0, 0) y1']; rfl
    have hc2 : (W3.putObj D' (.deferred none)).cell? ⟨w.heap.size + 1, 0, none⟩ = some (.int .i64 0) := by rw [cell_of_row _ _ 0 _ _ (0, 0) y2']; rfl
    have hB4 := hB.trans (yb.trans (belowK_b (w := w) (Nat.le_refl _) W3 D' (.deferred (some [])) (.deferred none) (by have := hB2.size; omega) hK2 rfl rfl))
    obtain ⟨A5, c5, he5, hP5, hA5⟩ := hU4.pieces
    cases he5
    have HGE := Lib.hid (show gatherD n L = (0, us.map PEl.dat) from HS.out ▸ HG.out)
    refine ⟨.tuple #[.agg #[.int .i64 D, .slice uA us.length uc], .int .i64 0], ?_, ?_⟩
    · simp [results, Tryz.f44, go_sem, hc0, hc1, hc2]
    · rw [HGE.out]
      exact ⟨_, _, _, us, rfl, hP5, hU4.ok, rfl, (fun h => let ⟨g, o, h1, h2⟩ := hA5 h; ⟨g, o, h1, by omega⟩), hB4⟩
  case stop =>
    rintro D' cd pre W hD ⟨k, hk⟩ ⟨⟨rfl, er, l, hg, her, hz1, hz2⟩, hB⟩ hK'
    have HS := Lib.hid hk
    clear hk
    gi_wp2
    refine ⟨by simp, .inl ⟨_, _, rfl, run_takeDeferred hK', ?_⟩⟩
    have y1' : (W.putObj D' (.deferred none)).heap[w.heap.size]? = some (.cells #[.int .i64 0, .slice none 0 0] 24 (0, 0)) := (World.putObj_heap_other (by omega)).trans hz1
    have y2' : (W.putObj D' (.deferred none)).heap[w.heap.size + 1]? = some (.cells #[.int .i64 er] 27 (0, 0)) := (World.putObj_heap_other (by omega)).trans hz2
    have hc0 : (W.putObj D' (.deferred none)).cell? ⟨w.heap.size, 0, none⟩ = some (.int .i64 0) := by rw [cell_of_row _ _ 0 _ _ (0, 0) y1']; rfl
    have hc1 : (W.putObj D' (.deferred none)).cell? ⟨w.heap.size, 1, none⟩ = some (.slice none 0 0) := by rw [cell_of_row _ _ 1 _ _ (0, 0) y1']; rfl
    have hc2 : (W.putObj D' (.deferred none)).cell? ⟨w.heap.size + 1, 0, none⟩ = some (.int .i64 er) := by rw [cell_of_row _ _ 0 _ _ (0, 0) y2']; rfl
    have hB4 := hB.trans (belowK_b (w := w) (Nat.le_refl _) W D' (.deferred (some [])) (.deferred none) (by have := hB2.size; omega) hK' rfl rfl)
    have HGE := Lib.hid (show gatherD n L = (er, l) by
      rw [HS.out] at hg
      rw [← List.take_append_drop k L, gather_stuck (by rw [hg]; exact her), hg])
    refine ⟨.tuple #[.agg #[.int .i64 0, .slice none 0 0], .int .i64 er], ?_, ?_⟩
    · simp [results, Tryz.f44, go_sem, hc0, hc1, hc2]
    · rw [HGE.out]
      refine ⟨none, 0, 0, [], ?_, ⟨rfl, by omega, fun h => absurd h (by omega), fun p h => nomatch h⟩, (fun p h => nomatch h), ?_, (fun h => absurd h (by omega)), hB4⟩
      · show Ending.returned (.tuple #[.agg #[.int .i64 0, .slice none 0 0], .int .i64 er]) = .returned (.tuple #[.agg #[.int .i64 (if er ≠ 0 then 0 else D), .slice none 0 0], .int .i64 er])
        rw [if_pos her]
      · show [] = (if er ≠ 0 then [] else l)
        rw [if_pos her]
end Go.Proofs.YtkgnlloioaobiaaGreat
namespace Go.Proofs.YtkgnlloioaobiaaGreat
open Go.RowKit Go.Shelf
attribute [local go_sem] Oper.semAt_some
def meetL (l l' : List (List CD)) : List (List CD) := l.flatMap fun d => l'.map fun d' => d ++ d'
theorem meet_len (l l' : List (List CD)) : (meetL l l').length = l.length * l'.length := by
  induction l with
  | nil => simp [meetL]
  | cons d l ih =>
    have h : meetL (d :: l) l' = (l'.map fun d' => d ++ d') ++ meetL l l' := by simp [meetL]
    rw [h, List.length_append, ih, List.length_map, List.length_cons, Nat.succ_mul, Nat.add_comm]
theorem meet_at : ∀ (l l' : List (List CD)) (i j : Nat) (d d' : List CD), l[i]? = some d → l'[j]? = some d' → (meetL l l')[i * l'.length + j]? = some (d ++ d')
  | [], l', i, j, d, d', h, _ => by simp at h
  | x :: l, l', 0, j, d, d', h, h' => by
    have h0 : meetL (x :: l) l' = (l'.map fun d' => x ++ d') ++ meetL l l' := by simp [meetL]
    have hj := (List.getElem?_eq_some_iff.1 h').1
    simp at h
    subst h
    rw [h0, List.getElem?_append_left (by rw [List.length_map]; omega), Nat.zero_mul, Nat.zero_add, List.getElem?_map, h']
    rfl
  | x :: l, l', i + 1, j, d, d', h, h' => by
    have h0 : meetL (x :: l) l' = (l'.map fun d' => x ++ d') ++ meetL l l' := by simp [meetL]
    have ih := meet_at l l' i j d d' (by simpa using h) h'
    rw [h0, List.getElem?_append_right (by rw [List.length_map, Nat.succ_mul]; omega), List.length_map, show (i + 1) * l'.length + j - l'.length = i * l'.length + j by rw [Nat.succ_mul]; omega]
    exact ih
theorem take_snoc {α : Type} {l : List α} {k : Nat} {x : α} (h : l[k]? = some x) : l.take (k + 1) = l.take k ++ [x] := by
  rw [List.take_add_one, h]; rfl
theorem row_two {w : World} {g : Nat} {p q : PEl} (hg : w.heap[g]? = some (.cells #[p.v, q.v] 34 (0, 0))) (hp : CondsAt w p.A p.n p.els) (hq : CondsAt w q.A q.n q.els) : PiecesAt w (some ⟨g, 0, none⟩) 2 [p, q] := by
  refine ⟨rfl, by omega, fun _ => ⟨g, 0, rfl, (Array.getElem?_eq_some_iff.1 hg).1, fun j x hx => ?_⟩, fun x hx => ?_⟩
  · match j, hx with
    | 0, hx => cases hx; rw [cell_of_row w g _ _ _ (0, 0) hg]; rfl
    | 1, hx => cases hx; rw [cell_of_row w g _ _ _ (0, 0) hg]; rfl
    | j + 2, hx => simp at hx
  · rcases List.mem_cons.1 hx with rfl | hx
    · exact hp
    · rw [List.mem_singleton.1 hx]; exact hq
theorem grown_of_below {w w' : World} (hb : Below w.heap.size w w') : w.grownBy w' none := ⟨hb.os, hb.tape, hb.output, hb.size, fun k hk _ => hb.block k hk⟩
set_option maxRecDepth 100000 in
set_option maxHeartbeats 4000000 in
theorem meet_stops {nn : Nat} (Ba Bb : Nat) (D : Int) (A : Option Addr) (n c : Nat) (ps : List PEl) (D' : Int) (A' : Option Addr) (n' c' : Nat) (ps' : List PEl) (w w2 : World) (hw : Below w.heap.size w w2) (hBa : SetBox w Ba D A n c) (hBb : SetBox w Bb D' A' n' c') (P0 : PiecesAt w A n ps) (P1 : PiecesAt w A' n' ps')
    (hC : ∀ p ∈ ps, p.A = none → p.c = 0) (hC' : ∀ p ∈ ps', p.A = none → p.c = 0) (hv : ∀ p ∈ ps, (∀ e ∈ p.els, PreB nn e) ∧ p.els.length ≤ 96) (hv' : ∀ p ∈ ps', (∀ e ∈ p.els, PreB nn e) ∧ p.els.length ≤ 96) :
    SeqFresh Fence.wide 4 Tryz.prog 51 #[.pointer (some ⟨Ba, 0, none⟩), .pointer (some ⟨Bb, 0, none⟩)] fEnc (Fresh nn) (KpS w.heap.size) (fun ys => ys.map PEl.dat = meetL (ps.map PEl.dat) (ps'.map PEl.dat)) (fun done => ∃ k, done.map PEl.dat = (meetL (ps.map PEl.dat) (ps'.map PEl.dat)).take k) (meetL (ps.map PEl.dat) (ps'.map PEl.dat)).length w2 := by
  intro l J Jx W hW h1 _ hY h0
  have hro : Fence.wide.round = none := rfl
  have hb := hw.trans (hW.mono hw.size)
  have HJ := Lib.hid (fun done V V' (h : J done V) (hb : Below V.heap.size V V') => h1 done V V' none h (grown_of_below hb) (fun r e => by cases e))
  have HL := Lib.hid P0.len
  have HL' := Lib.hid P1.len
  have HC := Lib.hid hC
  have HC' := Lib.hid hC'
  have HV := Lib.hid hv
  have HV' := Lib.hid hv'
  have HLen := Lib.hid (show (meetL (ps.map PEl.dat) (ps'.map PEl.dat)).length = n * n' by rw [meet_len, List.length_map, List.length_map, P0.len, P1.len])
  have HAt := Lib.hid (fun (i j : Nat) (p q : PEl) (hp : ps[i]? = some p) (hq : ps'[j]? = some q) => (show (meetL (ps.map PEl.dat) (ps'.map PEl.dat))[i * n' + j]? = some (p.dat ++ q.dat) by
    have := meet_at (ps.map PEl.dat) (ps'.map PEl.dat) i j p.dat q.dat (by rw [List.getElem?_map, hp]; rfl) (by rw [List.getElem?_map, hq]; rfl)
    rwa [List.length_map, P1.len] at this))
  obtain ⟨L, hLd⟩ : ∃ L, meetL (ps.map PEl.dat) (ps'.map PEl.dat) = L := ⟨_, rfl⟩
  rw [hLd] at HLen HAt hY ⊢
  have B1 := hBa.step hb
  have B2 := hBb.step hb
  have a1 := B1.c1
  have hsm := P0.small
  have hsm' := P1.small
  have HY := Lib.hid hY
  clear hLd hC hC' hv hv' hY h1
  refine callsIn_of_wp Tryz.func51 rfl trivial ?_ hro
  simp only [Tryz.ntmps51, List.size_toArray, List.length_cons, List.length_nil, Nat.reduceAdd, Nat.reduceSub, Array.replicate_succ, Array.replicate_zero, List.push_toArray, List.append_toArray, List.nil_append, List.cons_append]
  gi_wp2
  clear a1 B1 B2
  gi_loopw [11] (fun v wr => ∃ (i : Nat) (done : List PEl), i ≤ n ∧ v = .int .i64 i ∧ J done wr ∧ Hid (done.map PEl.dat = L.take (i * n')) ∧ Below w.heap.size w wr) (fun v _ => n - (intOf v).toNat)
  case atStart => exact ⟨0, [], Nat.zero_le _, rfl, h0, Lib.hid (by simp), hb⟩
  case round =>
    clear h0 hb
    obtain ⟨i, done, hi, rfl, hJ, HD, hbr⟩ := hrel
    by_cases hlt : i < n
    · obtain ⟨b, off, p, rfl, hblt, hpj, hmem, hcell, hCp⟩ := (P0.step hbr).at hlt
      have HPJ := Lib.hid hpj
      have HPM := Lib.hid hmem
      have b1 := (hBb.step hbr).c1
      obtain ⟨pA, pn, pc, pels⟩ := p
      simp only at hcell hCp
      have hq1 : (i : Int) < n := by omega
      clear hpj hmem hCp
      gi_wp2
      generalize hwr : wr = wo at *
      clear hwr hcell b1
      gi_loopw [18] (fun v wt => ∃ (j : Nat) (done : List PEl), j ≤ n' ∧ v = .int .i64 j ∧ J done wt ∧ Hid (done.map PEl.dat = L.take (i * n' + j)) ∧ Below w.heap.size w wt) (fun v _ => n' - (intOf v).toNat)
      case atStart => exact ⟨0, done, Nat.zero_le _, rfl, hJ, HD, hbr⟩
      case round =>
        clear hJ hbr HD hblt
        obtain ⟨j, dn, hj, rfl, hJ, HD, hbr⟩ := hrel
        by_cases hlt2 : j < n'
        · obtain ⟨b2, off2, q, hA2, hblt2, hqj, hqm, hcell2, hCq⟩ := (P1.step hbr).at hlt2
          have hA2 : A' = some ⟨b2, off2, none⟩ := hA2
          subst hA2
          have HQJ := Lib.hid hqj
          have HQM := Lib.hid hqm
          have hCp := (P0.conds _ HPM.out).step hbr
          have HSN := Lib.hid (take_snoc (HAt.out i j _ _ HPJ.out HQJ.out))
          obtain ⟨qA, qn, qc, qels⟩ := q
          simp only at hcell2 hCq hCp
          have hq2 : (j : Int) < n' := by omega
          have b5 := below_alloc wr (.cells #[.slice pA pn pc, .slice qA qn qc] 34)
          have hR2 := row_two (w := wr.alloc (.cells #[.slice pA pn pc, .slice qA qn qc] 34)) (g := wr.heap.size) (p := ⟨pA, pn, pc, pels⟩) (q := ⟨qA, qn, qc, qels⟩) (heap_alloc_new wr _) (hCp.step b5) (hCq.step b5)
          have e1 := (HV.out _ HPM.out).2
          have e2 := (HV'.out _ HQM.out).2
          have HK := Lib.hid (show ∀ x ∈ [(⟨pA, pn, pc, pels⟩ : PEl), ⟨qA, qn, qc, qels⟩], x.A = none → x.c = 0 from fun x hx => by
            rcases List.mem_cons.1 hx with rfl | hx
            · exact HC.out _ HPM.out
            · rw [List.mem_singleton.1 hx]; exact HC'.out _ HQM.out)
          have hfm : ([(⟨pA, pn, pc, pels⟩ : PEl), ⟨qA, qn, qc, qels⟩]).flatMap PEl.els = pels ++ qels := by simp
          have HT := Lib.hid (show (([(⟨pA, pn, pc, pels⟩ : PEl), ⟨qA, qn, qc, qels⟩]).flatMap PEl.els).length ≤ 100000 by rw [hfm, List.length_append]; simp only at e1 e2; omega)
          have HCT := Lib.hid ((any_concat (cm := 2) _ hR2 HK.out HT.out (by omega)).mono (R' := fun e w3 => ∃ A3 m3 c3 out, e = .returned (.slice A3 m3 c3) ∧ CondsAt w3 A3 m3 out ∧ out = pels ++ qels ∧ m3 ≤ 1000 ∧ Below wr.heap.size wr w3) (by
            rintro e w3 ⟨A3, c3, rfl, L3, hb3⟩
            rw [hfm] at L3
            rw [hfm]
            refine ⟨A3, _, c3, _, rfl, L3.conds.2, rfl, ?_, b5.trans (hb3.mono b5.size)⟩
            rw [List.length_append]; simp only at e1 e2; omega))
          have HPR := Lib.hid (show ∀ e ∈ pels ++ qels, PreB nn e from fun e he => by
            rcases List.mem_append.1 he with he | he
            · exact (HV.out _ HPM.out).1 e he
            · exact (HV'.out _ HQM.out).1 e he)
          have HLT := Lib.hid (show dn.length < L.length by
            have h9 := congrArg List.length HD.out
            rw [List.length_map, List.length_take] at h9
            have h8 := (List.getElem?_eq_some_iff.1 (HAt.out i j _ _ HPJ.out HQJ.out)).1
            omega)
          clear hqj hqm hR2 e1 e2 hfm hCp hCq b5
          gi_wp2_with (refine ⟨trivial, ?_⟩; gi_at_call 52; refine (callsIn_wide.2 HCT.out).mono ?_; rintro e w3 ⟨A3, m3, c3, out, rfl, hC3, ho3, hm3, hb3⟩; obtain ⟨fn, tmps, assign, body, hy, hR⟩ := HY.out dn ⟨A3, m3, c3, out⟩ w3 (HJ.out _ _ _ hJ hb3) ⟨hC3, by rw [ho3]; exact HPR.out, hm3⟩ HLT.out; dsimp only [fEnc] at hy)
          have hbn := hbr.trans (hb3.mono hbr.size)
          refine hR.mono ?_
          rintro e W3 (⟨rfl, hJ3, hk3⟩ | ⟨rfl, hJx3⟩)
          · have HDN := Lib.hid (show (dn ++ [(⟨A3, m3, c3, out⟩ : PEl)]).map PEl.dat = L.take (i * n' + (j + 1)) by
              rw [← Nat.add_assoc, HSN.out, List.map_append, HD.out]
              show _ ++ [out.map CEl.d] = _ ++ [pels.map CEl.d ++ qels.map CEl.d]
              rw [ho3, List.map_append])
            gi_wp2
            go_roundw
            case rel => exact ⟨j + 1, _, by omega, by go_num, hJ3, HDN, hbn.trans hk3.1⟩
            case measure => simp [intOf]; omega
          · have HDN := Lib.hid (show (dn ++ [(⟨A3, m3, c3, out⟩ : PEl)]).map PEl.dat = L.take (i * n' + j + 1) by
              rw [HSN.out, List.map_append, HD.out]
              show _ ++ [out.map CEl.d] = _ ++ [pels.map CEl.d ++ qels.map CEl.d]
              rw [ho3, List.map_append])
            gi_wp2
            refine bodyPost_ret (results_none rfl _ _ _) rfl ?_
            exact ⟨⟨_, rfl⟩, .inr ⟨_, ⟨_, HDN.out⟩, hJx3⟩⟩
        · obtain rfl : j = n' := by omega
          gi_wp2
          go_roundw
          case rel => exact ⟨i + 1, dn, by omega, by go_num, hJ, by rw [show (i + 1) * j = i * j + j from Nat.succ_mul i j]; exact HD, hbr⟩
          case measure => simp [intOf]; omega
    · obtain rfl : i = n := by omega
      gi_wp2
      go_end0
      refine ⟨⟨_, rfl⟩, .inl ⟨done, ?_, hJ⟩⟩
      rw [HD.out, List.take_of_length_le (by rw [HLen.out]; exact Nat.le_refl _)]
end Go.Proofs.YtkgnlloioaobiaaGreat
namespace Go.Proofs.YtkgnlloioaobiaaGreat
open Go.RowKit Go.Shelf
set_option maxHeartbeats 4000000 in
theorem set_meet (D : Int) (A : Option Addr) (n c : Nat) (ps : List PEl) (A' : Option Addr) (n' c' : Nat) (ps' : List PEl) (w : World) (h : PiecesAt w A n ps) (h' : PiecesAt w A' n' ps') (hv1 : validS D ps = true) (hv2 : validS D ps' = true) (hC : ∀ p ∈ ps, p.A = none → p.c = 0) (hC' : ∀ p ∈ ps', p.A = none → p.c = 0) :
    Calls Tryz.prog 16 #[setV D A n c, setV D A' n' c'] w fun e w' => GatherRet D.toNat w e w' D (gatherD D.toNat (meetL (ps.map PEl.dat) (ps'.map PEl.dat))) := by
  have HE := Lib.hid (show bothE D ps D ps' = 0 by unfold bothE; rw [if_pos ⟨hv1, hv2⟩, if_pos rfl])
  have hvp := valid_parts hv1
  have hvq := valid_parts hv2
  have HPR := Lib.hid (And.intro hvp.2 hvq.2)
  have HC := Lib.hid (And.intro hC hC')
  have HN := Lib.hid (show D.toNat ≤ 100 by have := hvp.1; omega)
  obtain ⟨nn, hnn⟩ : ∃ nn, D.toNat = nn := ⟨_, rfl⟩
  rw [hnn] at HPR HN ⊢
  obtain ⟨gd, hgd⟩ : ∃ gd, gatherD nn (meetL (ps.map PEl.dat) (ps'.map PEl.dat)) = gd := ⟨_, rfl⟩
  rw [hgd]
  have HG := Lib.hid hgd
  obtain ⟨D', hD'⟩ : ∃ D', (if gd.1 ≠ 0 then (0 : Int) else D) = D' := ⟨_, rfl⟩
  have HDD := Lib.hid hD'
  have hB := below_step (below_step (below_alloc w (.cells #[.int .i64 D, .slice A n c] 24)) (below_alloc _ (.cells #[.int .i64 D, .slice A' n' c'] 24))) (below_alloc _ (.cells #[.int .i64 0, .slice none 0 0] 24))
  have X1 := ((SetBox.new w D A n c).alloc (.cells #[.int .i64 D, .slice A' n' c'] 24)).alloc (.cells #[.int .i64 0, .slice none 0 0] 24)
  have X2 := (SetBox.new (w.alloc (.cells #[.int .i64 D, .slice A n c] 24)) D A' n' c').alloc (.cells #[.int .i64 0, .slice none 0 0] 24)
  have X3 := SetBox.new ((w.alloc (.cells #[.int .i64 D, .slice A n c] 24)).alloc (.cells #[.int .i64 D, .slice A' n' c'] 24)) 0 none 0 0
  have P1 := h.step hB
  have P2 := h'.step hB
  have c0 := X1.c0
  have c1 := X1.c1
  have d0 := X2.c0
  have d1 := X2.c1
  simp only [World.size_alloc] at X2 X3 d0 d1
  clear h h' hv1 hv2 hvp hvq hgd hD' hnn hC hC'
  go_enter Tryz.func16, Tryz.ntmps16
  go_wp2_with (first | (go_at_call 48; refine (set_both D A n c ps D A' n' c' ps' _ P1 P2).mono ?_; rintro e w1 ⟨rfl, hb⟩; rw [HE.out]; replace hB := below_step hB hb; replace P1 := P1.step hb; replace P2 := P2.step hb; replace X1 := X1.step hb; replace X2 := X2.step hb; replace X3 := X3.step hb; clear hb c0 c1 d0 d1; have c0 := X1.c0; have c1 := X1.c1; have d0 := X2.c0; have d1 := X2.c1; have HS1 := Lib.hid hB.size; have HL1 := Lib.hid X3.lt) | (go_at_call 44; refine (gathered_fresh (n := nn) HN.out D (meetL (ps.map PEl.dat) (ps'.map PEl.dat)) w1 _ _ (enters_of Tryz.func51 (by kernel_rfl) rfl) (fun w2 hw => meet_stops _ _ D A n c ps D A' n' c' ps' w1 w2 hw X1 X2 P1 P2 HC.out.1 HC.out.2 HPR.out.1 HPR.out.2)).mono ?_; rw [HG.out]; rintro e w3 ⟨A3, k3, c3, qs, rfl, hP3, hok3, hd3, hA3, hb3⟩; rw [HDD.out]; have hB3 := below_step hB hb3; have Z3 := X3.step hb3; have r0 := Z3.c0; have r1 := Z3.c1; have f0 := Z3.f 0; have f1 := Z3.f 1))
  have X4 := Z3.put D' A3 k3 c3
  have hku := Z3.keepU (.int .i64 D') (.slice A3 k3 c3)
  have hok4 := fun p hp => (hok3 p hp).keep hku
  have hP4 := pieces_move hP3 hok4 hku.size (fun h0 g o hA => by
    obtain ⟨g', o', h1, h2⟩ := hA3 h0
    rw [hA] at h1
    cases h1
    exact put_other (by have := HL1.out; omega) _ _)
  have hb4 := hB3.trans (below_put (w := w3) (N := w.heap.size) (b := w.heap.size + 1 + 1) (by omega) (.int .i64 D') (.slice A3 k3 c3))
  generalize (w3.setCell ⟨w.heap.size + 1 + 1, 0, none⟩ (.int .i64 D')).setCell ⟨w.heap.size + 1 + 1, 1, none⟩ (.slice A3 k3 c3) = w4 at *
  have v0 := X4.c0
  have v1 := X4.c1
  refine bodyPost_ret (v := .tuple #[setV D' A3 k3 c3, .int .i64 gd.1]) (by simp [results, Tryz.results16, go_sem, v0, v1]) rfl ?_
  exact ⟨A3, k3, c3, qs, by rw [HDD.out], hP4, hok4, hd3, (fun h => let ⟨g, o, h1, h2⟩ := hA3 h; ⟨g, o, h1, by have := HS1.out; omega⟩), hb4⟩
set_option maxHeartbeats 4000000 in
theorem set_meet_bad (D : Int) (A : Option Addr) (n c : Nat) (ps : List PEl) (D' : Int) (A' : Option Addr) (n' c' : Nat) (ps' : List PEl) (w : World) (h : PiecesAt w A n ps) (h' : PiecesAt w A' n' ps') (hbe : bothE D ps D' ps' ≠ 0) :
    Calls Tryz.prog 16 #[setV D A n c, setV D' A' n' c'] w fun e w' => e = .returned (.tuple #[setV 0 none 0 0, .int .i64 (bothE D ps D' ps')]) ∧ Below w.heap.size w w' := by
  obtain ⟨er, her⟩ : ∃ er, bothE D ps D' ps' = er := ⟨_, rfl⟩
  rw [her] at hbe ⊢
  have HE := Lib.hid her
  have B1 := below_step (below_step (below_alloc w (.cells #[.int .i64 D, .slice A n c] 24)) (below_alloc _ (.cells #[.int .i64 D', .slice A' n' c'] 24))) (below_alloc _ (.cells #[.int .i64 0, .slice none 0 0] 24))
  have X1 := ((SetBox.new w D A n c).alloc (.cells #[.int .i64 D', .slice A' n' c'] 24)).alloc (.cells #[.int .i64 0, .slice none 0 0] 24)
  have X2 := (SetBox.new (w.alloc (.cells #[.int .i64 D, .slice A n c] 24)) D' A' n' c').alloc (.cells #[.int .i64 0, .slice none 0 0] 24)
  have X3 : SetBox (((w.alloc (.cells #[.int .i64 D, .slice A n c] 24)).alloc (.cells #[.int .i64 D', .slice A' n' c'] 24)).alloc (.cells #[.int .i64 0, .slice none 0 0] 24)) (w.heap.size + 2) 0 none 0 0 := by
    have := SetBox.new ((w.alloc (.cells #[.int .i64 D, .slice A n c] 24)).alloc (.cells #[.int .i64 D', .slice A' n' c'] 24)) 0 none 0 0
    rw [World.size_alloc, World.size_alloc] at this
    exact this
  rw [World.size_alloc] at X2
  have P1 := h.step B1
  have P2 := h'.step B1
  have c0 := X1.c0
  have c1 := X1.c1
  have d0 := X2.c0
  have d1 := X2.c1
  have h0' : (er != 0) = true := by simpa using hbe
  have h0'' : (er == 0) = false := by simpa using hbe
  clear her h h' hbe
  go_enter Tryz.func16, Tryz.ntmps16
  go_wp2_with (go_at_call 48; refine (set_both D A n c ps D' A' n' c' ps' _ P1 P2).mono ?_; rintro e w4 ⟨rfl, hb⟩; rw [HE.out]; replace B1 := below_step B1 hb; have X4 := X3.step hb; have z0 := X4.c0; have z1 := X4.c1; have f0 := X4.f 0; have f1 := X4.f 1)
  have X5 := X4.put 0 none 0 0
  have hb8 := below_put (w := w4) (N := w.heap.size) (b := w.heap.size + 2) (by omega) (.int .i64 0) (.slice none 0 0)
  generalize (w4.setCell ⟨w.heap.size + 2, 0, none⟩ (.int .i64 0)).setCell ⟨w.heap.size + 2, 1, none⟩ (.slice none 0 0) = w5 at *
  have y0 := X5.c0
  have y1 := X5.c1
  try rw [Exit.noGoto_ret]
  refine bodyPost_ret (v := .tuple #[setV 0 none 0 0, .int .i64 er]) (by simp [results, Tryz.results16, go_sem, y0, y1]) rfl ?_
  exact ⟨rfl, B1.trans hb8⟩
def meetE (D : Int) (ps : List PEl) (D' : Int) (ps' : List PEl) : Int × List (List CD) := if bothE D ps D' ps' ≠ 0 then (bothE D ps D' ps', []) else gatherD D.toNat (meetL (ps.map PEl.dat) (ps'.map PEl.dat))
theorem meet_any (D : Int) (A : Option Addr) (n c : Nat) (ps : List PEl) (D' : Int) (A' : Option Addr) (n' c' : Nat) (ps' : List PEl) (w : World) (h : PiecesAt w A n ps) (h' : PiecesAt w A' n' ps') (hC : ∀ p ∈ ps, p.A = none → p.c = 0) (hC' : ∀ p ∈ ps', p.A = none → p.c = 0) :
    Calls Tryz.prog 16 #[setV D A n c, setV D' A' n' c'] w fun e w' => GatherRet D.toNat w e w' D (meetE D ps D' ps') := by
  unfold meetE
  by_cases h0 : bothE D ps D' ps' ≠ 0
  · rw [if_pos h0]
    exact (set_meet_bad D A n c ps D' A' n' c' ps' w h h' h0).mono fun e w' h => gather_none h0 h
  · rw [if_neg h0]
    obtain ⟨hv1, hv2, rfl⟩ := both_ok (show bothE D ps D' ps' = 0 by simpa using h0)
    exact set_meet D A n c ps A' n' c' ps' w h h' hv1 hv2 hC hC'
end Go.Proofs.YtkgnlloioaobiaaGreat
namespace Go.Proofs.YtkgnlloioaobiaaGreat
open Go.RowKit Go.Shelf
set_option maxHeartbeats 4000000 in
theorem ref_union_bad (D : Int) (A : Option Addr) (n c : Nat) (ps : List PEl) (D' : Int) (A' : Option Addr) (n' c' : Nat) (ps' : List PEl) (w : World) (h : PiecesAt w A n ps) (h' : PiecesAt w A' n' ps') (hbe : bothE D ps D' ps' ≠ 0) :
    Calls Tryz.prog 15 #[setV D A n c, setV D' A' n' c'] w fun e w' => e = .returned (.tuple #[setV 0 none 0 0, .int .i64 (bothE D ps D' ps')]) ∧ Below w.heap.size w w' := by
  obtain ⟨er, her⟩ : ∃ er, bothE D ps D' ps' = er := ⟨_, rfl⟩
  rw [her] at hbe ⊢
  have HE := Lib.hid her
  have B1 := below_step (below_step (below_alloc w (.cells #[.int .i64 D, .slice A n c] 24)) (below_alloc _ (.cells #[.int .i64 D', .slice A' n' c'] 24))) (below_alloc _ (.cells #[.int .i64 0, .slice none 0 0] 24))
  have X1 := ((SetBox.new w D A n c).alloc (.cells #[.int .i64 D', .slice A' n' c'] 24)).alloc (.cells #[.int .i64 0, .slice none 0 0] 24)
  have X2 := (SetBox.new (w.alloc (.cells #[.int .i64 D, .slice A n c] 24)) D' A' n' c').alloc (.cells #[.int .i64 0, .slice none 0 0] 24)
  have X3 : SetBox (((w.alloc (.cells #[.int .i64 D, .slice A n c] 24)).alloc (.cells #[.int .i64 D', .slice A' n' c'] 24)).alloc (.cells #[.int .i64 0, .slice none 0 0] 24)) (w.heap.size + 2) 0 none 0 0 := by
    have := SetBox.new ((w.alloc (.cells #[.int .i64 D, .slice A n c] 24)).alloc (.cells #[.int .i64 D', .slice A' n' c'] 24)) 0 none 0 0
    rw [World.size_alloc, World.size_alloc] at this
    exact this
  rw [World.size_alloc] at X2
  have P1 := h.step B1
  have P2 := h'.step B1
  have c0 := X1.c0
  have c1 := X1.c1
  have d0 := X2.c0
  have d1 := X2.c1
  have h0' : (er != 0) = true := by simpa using hbe
  have h0'' : (er == 0) = false := by simpa using hbe
  clear her h h' hbe
  go_enter Tryz.func15, Tryz.ntmps15
  go_wp2_with (go_at_call 50; refine (ref_boths D A n c ps D' A' n' c' ps' _ P1 P2).mono ?_; rintro e w4 ⟨rfl, hb⟩; rw [HE.out]; replace B1 := below_step B1 hb; have X4 := X3.step hb; have z0 := X4.c0; have z1 := X4.c1; have f0 := X4.f 0; have f1 := X4.f 1)
  have X5 := X4.put 0 none 0 0
  have hb8 := below_put (w := w4) (N := w.heap.size) (b := w.heap.size + 2) (by omega) (.int .i64 0) (.slice none 0 0)
  generalize (w4.setCell ⟨w.heap.size + 2, 0, none⟩ (.int .i64 0)).setCell ⟨w.heap.size + 2, 1, none⟩ (.slice none 0 0) = w5 at *
  have y0 := X5.c0
  have y1 := X5.c1
  try rw [Exit.noGoto_ret]
  refine bodyPost_ret (v := .tuple #[setV 0 none 0 0, .int .i64 er]) (by simp [results, Tryz.results15, go_sem, y0, y1]) rfl ?_
  exact ⟨rfl, B1.trans hb8⟩
set_option maxHeartbeats 4000000 in
theorem ref_meet_bad (D : Int) (A : Option Addr) (n c : Nat) (ps : List PEl) (D' : Int) (A' : Option Addr) (n' c' : Nat) (ps' : List PEl) (w : World) (h : PiecesAt w A n ps) (h' : PiecesAt w A' n' ps') (hbe : bothE D ps D' ps' ≠ 0) :
    Calls Tryz.prog 17 #[setV D A n c, setV D' A' n' c'] w fun e w' => e = .returned (.tuple #[setV 0 none 0 0, .int .i64 (bothE D ps D' ps')]) ∧ Below w.heap.size w w' := by
  obtain ⟨er, her⟩ : ∃ er, bothE D ps D' ps' = er := ⟨_, rfl⟩
  rw [her] at hbe ⊢
  have HE := Lib.hid her
  have B1 := below_step (below_step (below_alloc w (.cells #[.int .i64 D, .slice A n c] 24)) (below_alloc _ (.cells #[.int .i64 D', .slice A' n' c'] 24))) (below_alloc _ (.cells #[.int .i64 0, .slice none 0 0] 24))
  have X1 := ((SetBox.new w D A n c).alloc (.cells #[.int .i64 D', .slice A' n' c'] 24)).alloc (.cells #[.int .i64 0, .slice none 0 0] 24)
  have X2 := (SetBox.new (w.alloc (.cells #[.int .i64 D, .slice A n c] 24)) D' A' n' c').alloc (.cells #[.int .i64 0, .slice none 0 0] 24)
  have X3 : SetBox (((w.alloc (.cells #[.int .i64 D, .slice A n c] 24)).alloc (.cells #[.int .i64 D', .slice A' n' c'] 24)).alloc (.cells #[.int .i64 0, .slice none 0 0] 24)) (w.heap.size + 2) 0 none 0 0 := by
    have := SetBox.new ((w.alloc (.cells #[.int .i64 D, .slice A n c] 24)).alloc (.cells #[.int .i64 D', .slice A' n' c'] 24)) 0 none 0 0
    rw [World.size_alloc, World.size_alloc] at this
    exact this
  rw [World.size_alloc] at X2
  have P1 := h.step B1
  have P2 := h'.step B1
  have c0 := X1.c0
  have c1 := X1.c1
  have d0 := X2.c0
  have d1 := X2.c1
  have h0' : (er != 0) = true := by simpa using hbe
  have h0'' : (er == 0) = false := by simpa using hbe
  clear her h h' hbe
  go_enter Tryz.func17, Tryz.ntmps17
  go_wp2_with (go_at_call 50; refine (ref_boths D A n c ps D' A' n' c' ps' _ P1 P2).mono ?_; rintro e w4 ⟨rfl, hb⟩; rw [HE.out]; replace B1 := below_step B1 hb; have X4 := X3.step hb; have z0 := X4.c0; have z1 := X4.c1; have f0 := X4.f 0; have f1 := X4.f 1)
  have X5 := X4.put 0 none 0 0
  have hb8 := below_put (w := w4) (N := w.heap.size) (b := w.heap.size + 2) (by omega) (.int .i64 0) (.slice none 0 0)
  generalize (w4.setCell ⟨w.heap.size + 2, 0, none⟩ (.int .i64 0)).setCell ⟨w.heap.size + 2, 1, none⟩ (.slice none 0 0) = w5 at *
  have y0 := X5.c0
  have y1 := X5.c1
  try rw [Exit.noGoto_ret]
  refine bodyPost_ret (v := .tuple #[setV 0 none 0 0, .int .i64 er]) (by simp [results, Tryz.results17, go_sem, y0, y1]) rfl ?_
  exact ⟨rfl, B1.trans hb8⟩
theorem ref_union_any (D : Int) (A : Option Addr) (n c : Nat) (ps : List PEl) (D' : Int) (A' : Option Addr) (n' c' : Nat) (ps' : List PEl) (w : World) (h : PiecesAt w A n ps) (h' : PiecesAt w A' n' ps') (hC : A = none → c = 0) (hC' : A' = none → c' = 0) :
    Calls Tryz.prog 15 #[setV D A n c, setV D' A' n' c'] w fun e w' => GatherRet D.toNat w e w' D (unionE D ps D' ps') := by
  unfold unionE
  by_cases h0 : bothE D ps D' ps' ≠ 0
  · rw [if_pos h0]
    exact (ref_union_bad D A n c ps D' A' n' c' ps' w h h' h0).mono fun e w' h => gather_none h0 h
  · rw [if_neg h0]
    obtain ⟨hv1, hv2, rfl⟩ := both_ok (show bothE D ps D' ps' = 0 by simpa using h0)
    exact ref_union D A n c ps A' n' c' ps' w h h' hv1 hv2 hC hC'
set_option maxHeartbeats 8000000 in
theorem ref_meet (D : Int) (A : Option Addr) (n c : Nat) (ps : List PEl) (A' : Option Addr) (n' c' : Nat) (ps' : List PEl) (w : World) (h : PiecesAt w A n ps) (h' : PiecesAt w A' n' ps') (hv1 : validS D ps = true) (hv2 : validS D ps' = true) (hC : ∀ p ∈ ps, p.A = none → p.c = 0) (hC' : ∀ p ∈ ps', p.A = none → p.c = 0) :
    Calls Tryz.prog 17 #[setV D A n c, setV D A' n' c'] w fun e w' => GatherRet D.toNat w e w' D (gatherD D.toNat (meetL (ps.map PEl.dat) (ps'.map PEl.dat))) := by
  have HE := Lib.hid (show bothE D ps D ps' = 0 by unfold bothE; rw [if_pos ⟨hv1, hv2⟩, if_pos rfl])
  have hvp := valid_parts hv1
  have hvq := valid_parts hv2
  have hl1 := h.len
  have hl2 := h'.len
  have hp1 := hvp.1
  have hp2 := hvq.1
  have HC := Lib.hid (And.intro hC hC')
  have HVP := Lib.hid hvp.2
  have HVQ := Lib.hid hvq.2
  obtain ⟨nn, hnn⟩ : ∃ nn, D.toNat = nn := ⟨_, rfl⟩
  rw [hnn] at HVP HVQ ⊢
  have HLen := (show (meetL (ps.map PEl.dat) (ps'.map PEl.dat)).length = n * n' by rw [meet_len, List.length_map, List.length_map, hl1, hl2])
  have hnm : n * n' ≤ 400 * 400 := Nat.mul_le_mul (by omega) (by omega)
  have HNM := Lib.hid hnm
  have hsm1 : n ≤ 400 := by omega
  have hsm2 : n' ≤ 400 := by omega
  have HAt := Lib.hid (fun (i j : Nat) (p q : PEl) (hp : ps[i]? = some p) (hq : ps'[j]? = some q) => (show (meetL (ps.map PEl.dat) (ps'.map PEl.dat))[i * n' + j]? = some (p.dat ++ q.dat) by
    have := meet_at (ps.map PEl.dat) (ps'.map PEl.dat) i j p.dat q.dat (by rw [List.getElem?_map, hp]; rfl) (by rw [List.getElem?_map, hq]; rfl)
    rwa [List.length_map, hl2] at this))
  obtain ⟨L, hLd⟩ : ∃ L, meetL (ps.map PEl.dat) (ps'.map PEl.dat) = L := ⟨_, rfl⟩
  rw [hLd] at HLen HAt ⊢
  have HLen := Lib.hid HLen
  obtain ⟨gd, hgd⟩ : ∃ gd, gatherD nn L = gd := ⟨_, rfl⟩
  have HMD := Lib.hid (fun (A9 : Option Addr) (k c9 : Nat) (us : List PEl) (W : World) (P9 : PiecesAt W A9 k us) (hk : k ≤ 2000000000) (hpu : ∀ p ∈ us, (∀ e ∈ p.els, PreB nn e) ∧ p.n ≤ 1000) (hd : us.map PEl.dat = L) => hgd ▸ hd ▸ ref_mades (n := nn) (by omega) D A9 k c9 us W P9 hk hpu)
  rw [hgd]
  obtain ⟨D', hD'⟩ : ∃ D', (if gd.1 ≠ 0 then (0 : Int) else D) = D' := ⟨_, rfl⟩
  have HDD := Lib.hid hD'
  have hB := below_step (below_step (below_alloc w (.cells #[.int .i64 D, .slice A n c] 24)) (below_alloc _ (.cells #[.int .i64 D, .slice A' n' c'] 24))) (below_alloc _ (.cells #[.int .i64 0, .slice none 0 0] 24))
  have X1 := ((SetBox.new w D A n c).alloc (.cells #[.int .i64 D, .slice A' n' c'] 24)).alloc (.cells #[.int .i64 0, .slice none 0 0] 24)
  have X2 := (SetBox.new (w.alloc (.cells #[.int .i64 D, .slice A n c] 24)) D A' n' c').alloc (.cells #[.int .i64 0, .slice none 0 0] 24)
  have X3 := SetBox.new ((w.alloc (.cells #[.int .i64 D, .slice A n c] 24)).alloc (.cells #[.int .i64 D, .slice A' n' c'] 24)) 0 none 0 0
  have P1 := h.step hB
  have P2 := h'.step hB
  have c0 := X1.c0
  have c1 := X1.c1
  have d0 := X2.c0
  have d1 := X2.c1
  simp only [World.size_alloc] at X2 X3 d0 d1
  have HL1 := Lib.hid hl1
  have HL2 := Lib.hid hl2
  clear h h' hv1 hv2 hvp hvq hgd hD' hnn hC hC' hLd hl1 hl2 hp1 hp2 hnm
  go_enter Tryz.func17, Tryz.ntmps17
  go_wp2_with (first | (go_at_call 50; refine (ref_boths D A n c ps D A' n' c' ps' _ P1 P2).mono ?_; rintro e w1 ⟨rfl, hb⟩; rw [HE.out]; replace hB := below_step hB hb; replace P1 := P1.step hb; replace P2 := P2.step hb; replace X1 := X1.step hb; replace X2 := X2.step hb; replace X3 := X3.step hb; clear hb c0 c1 d0 d1; have c0 := X1.c0; have c1 := X1.c1; have HS1 := Lib.hid hB.size))
  clear c0 c1
  go_loopw [7, 22] (fun u v wr => ∃ (i : Nat) (us : List PEl), i ≤ n ∧ v = .int .i64 i ∧ PL3 w1.heap.size wr u us ∧ Hid (us.map PEl.dat = L.take (i * n')) ∧ Hid (∀ p ∈ us, (∀ e ∈ p.els, PreB nn e) ∧ p.n ≤ 1000) ∧ Below w1.heap.size w1 wr) (fun _ v _ => n - (intOf v).toNat)
  case atStart => exact ⟨0, [], Nat.zero_le _, rfl, PL3.nil _ _, Lib.hid (by simp), Lib.hid (fun p h => nomatch h), Below.refl _ _⟩
  case round =>
    obtain ⟨i, us, hi, rfl, hU, HD, HPU, hbr⟩ := hrel
    by_cases hlt : i < n
    · obtain ⟨b, off, p, rfl, hblt, hpj, hmem, hcell, hCp⟩ := (P1.step hbr).at hlt
      have HPJ := Lib.hid hpj
      have HPM := Lib.hid hmem
      have b1 := (X2.step hbr).c1
      obtain ⟨pA, pn, pc, pels⟩ := p
      simp only at hcell hCp
      have hq1 : (i : Int) < n := by omega
      clear hpj hmem hCp
      go_wp2
      generalize hwr : wr = wo at *
      clear hwr hcell b1
      go_loopw [7, 29] (fun u v wt => ∃ (j : Nat) (us : List PEl), j ≤ n' ∧ v = .int .i64 j ∧ PL3 w1.heap.size wt u us ∧ Hid (us.map PEl.dat = L.take (i * n' + j)) ∧ Hid (∀ p ∈ us, (∀ e ∈ p.els, PreB nn e) ∧ p.n ≤ 1000) ∧ Below w1.heap.size w1 wt) (fun _ v _ => n' - (intOf v).toNat)
      case atStart => exact ⟨0, us, Nat.zero_le _, rfl, hU, HD, HPU, hbr⟩
      case round =>
        clear hU hbr HD HPU hblt
        obtain ⟨j, us, hj, rfl, hU, HD, HPU, hbr⟩ := hrel
        obtain ⟨Au, cu, rfl⟩ := hU.slice
        by_cases hlt2 : j < n'
        · obtain ⟨b2, off2, q, hA2, hblt2, hqj, hqm, hcell2, hCq⟩ := (P2.step hbr).at hlt2
          have hA2 : A' = some ⟨b2, off2, none⟩ := hA2
          subst hA2
          have HQJ := Lib.hid hqj
          have HQM := Lib.hid hqm
          have hCp := (P1.conds _ HPM.out).step hbr
          have HSN := Lib.hid (take_snoc (HAt.out i j _ _ HPJ.out HQJ.out))
          obtain ⟨qA, qn, qc, qels⟩ := q
          simp only at hcell2 hCq hCp
          have hq2 : (j : Int) < n' := by omega
          have e1 := (HVP.out _ HPM.out).2
          have e2 := (HVQ.out _ HQM.out).2
          simp only at e1 e2
          obtain ⟨out, hout⟩ : ∃ out, pels ++ qels = out := ⟨_, rfl⟩
          have HO := Lib.hid hout
          have hol : out.length ≤ 1000 := by rw [← hout, List.length_append]; omega
          have HOL := Lib.hid hol
          have HAND := Lib.hid (hout ▸ ref_and3 pA pn pc pels qA qn qc qels wr hCp hCq (HC.out.1 _ HPM.out) (HC.out.2 _ HQM.out) (by omega))
          have HRO := Lib.hid (show ∀ e ∈ out, RowAny w1.heap.size wr e.A e.n from fun e he => by
            rw [← hout] at he
            rcases List.mem_append.1 he with he | he
            · exact (RowAny.of_ints ((P1.conds _ HPM.out).ints e he) (Nat.le_refl _) : RowAny w1.heap.size w1 e.A e.n).step hbr
            · exact (RowAny.of_ints ((P2.conds _ HQM.out).ints e he) (Nat.le_refl _) : RowAny w1.heap.size w1 e.A e.n).step hbr)
          have HPR := Lib.hid (show ∀ e ∈ out, PreB nn e from fun e he => by
            rw [← hout] at he
            rcases List.mem_append.1 he with he | he
            · exact (HVP.out _ HPM.out).1 e he
            · exact (HVQ.out _ HQM.out).1 e he)
          have hul : us.length + 1 ≤ 4000000000 := by
            have h9 := congrArg List.length HD.out
            rw [List.length_map, List.length_take] at h9
            have := HLen.out
            have := HNM.out
            omega
          clear hqj hqm e1 e2 hCp hCq hout hol
          go_wp2_with (first
            | (go_at_call 53; refine HAND.out.mono ?_; rintro e w3 ⟨A3, c3, rfl, L3, hb3⟩; have hb3' := hbr.trans (hb3.mono hbr.size); have hU3 := hU.step hb3; have b4 := below_alloc w3 (.cells #[.slice A3 out.length c3] 34); have hPA := (PieceAny.of_cl3 L3 (fun e he => (HRO.out e he).step hb3)).step b4; have hPO := pieces_of_one (w := w3.alloc (.cells #[.slice A3 out.length c3] 34)) (p := ⟨A3, out.length, c3, out⟩) (heap_alloc_new w3 _) hPA.conds; have hsz4 := (hb3'.trans (b4.mono hb3'.size)).size)
            | (at_builtin; refine wpList_append_pieces rfl _ _ 22 rfl rfl rfl (hU3.step b4) rfl hPO (fun h => nomatch h) (fun p hp => by rw [List.mem_singleton.1 hp]; exact hPA) hul hsz4 ?_; intro u5 w5 hU5 hb5; have hb6 := (hb3'.trans (b4.mono hb3'.size)).trans hb5))
          go_roundw
          case rel => exact ⟨j + 1, _, by omega, by go_num, hU5, Lib.hid (by
            rw [← Nat.add_assoc, HSN.out, List.map_append, HD.out]
            show _ ++ [out.map CEl.d] = _ ++ [pels.map CEl.d ++ qels.map CEl.d]
            rw [← HO.out, List.map_append]), Lib.hid (fun p hp => by
            rcases List.mem_append.1 hp with hp | hp
            · exact HPU.out p hp
            · rw [List.mem_singleton.1 hp]; exact ⟨HPR.out, HOL.out⟩), hb6⟩
          case measure => simp [intOf]; omega
        · obtain rfl : j = n' := by omega
          go_wp2
          go_roundw
          case rel => exact ⟨i + 1, us, by omega, by go_num, hU, by rw [show (i + 1) * j = i * j + j from Nat.succ_mul i j]; exact HD, HPU, hbr⟩
          case measure => simp [intOf]; omega
    · obtain rfl : i = n := by omega
      obtain ⟨A9, c9, hu9, P9, hg9⟩ := hU.pieces
      subst hu9
      have HDU := Lib.hid (show us.map PEl.dat = L by rw [HD.out, List.take_of_length_le (by rw [HLen.out]; exact Nat.le_refl _)])
      have HLT := Lib.hid (show us.length ≤ 2000000000 by
        have h9 := congrArg List.length HDU.out
        rw [List.length_map] at h9
        have := HLen.out
        have := HNM.out
        omega)
      have c0 := (X1.step hbr).c0
      go_wp2_with (first | (go_at_call 47; refine (HMD.out A9 us.length c9 us _ P9 HLT.out HPU.out HDU.out).mono ?_; rintro e w3 ⟨A3, k3, c3, qs, rfl, hP3, hok3, hd3, hA3, hb3⟩; rw [HDD.out]; have hx3 := (hbr.trans (hb3.mono hbr.size) : Below w1.heap.size w1 w3); have hB3 := below_step hB hx3; have Z3 := X3.step hx3; have r0 := Z3.c0; have r1 := Z3.c1; have f0 := Z3.f 0; have f1 := Z3.f 1; have hA3' := (fun (h0 : 0 < k3) => (let ⟨g, o, h1, h2⟩ := hA3 h0; ⟨g, o, h1, Nat.le_trans hbr.size h2⟩ : ∃ g o, A3 = some ⟨g, o, none⟩ ∧ w1.heap.size ≤ g))))
      have X4 := Z3.put D' A3 k3 c3; have hku := Z3.keepU (.int .i64 D') (.slice A3 k3 c3); have hok4 := fun p hp => (hok3 p hp).keep hku; have hz3 := X3.lt
      have hP4 := pieces_move hP3 hok4 hku.size (fun h0 g o hA => by
        obtain ⟨g', o', h1, h2⟩ := hA3' h0
        rw [hA] at h1
        cases h1
        exact put_other (by omega) _ _)
      have hb4 := hB3.trans (below_put (w := w3) (N := w.heap.size) (b := w.heap.size + 1 + 1) (by omega) (.int .i64 D') (.slice A3 k3 c3))
      generalize (w3.setCell ⟨w.heap.size + 1 + 1, 0, none⟩ (.int .i64 D')).setCell ⟨w.heap.size + 1 + 1, 1, none⟩ (.slice A3 k3 c3) = w4 at *
      have v0 := X4.c0
      have v1 := X4.c1
      refine bodyPost_ret (v := .tuple #[setV D' A3 k3 c3, .int .i64 gd.1]) (by simp [results, Tryz.results17, go_sem, v0, v1]) rfl ?_
      exact ⟨A3, k3, c3, qs, by rw [HDD.out], hP4, hok4, hd3, (fun h => let ⟨g, o, h1, h2⟩ := hA3' h; ⟨g, o, h1, by have := HS1.out; omega⟩), hb4⟩
theorem ref_meet_any (D : Int) (A : Option Addr) (n c : Nat) (ps : List PEl) (D' : Int) (A' : Option Addr) (n' c' : Nat) (ps' : List PEl) (w : World) (h : PiecesAt w A n ps) (h' : PiecesAt w A' n' ps') (hC : ∀ p ∈ ps, p.A = none → p.c = 0) (hC' : ∀ p ∈ ps', p.A = none → p.c = 0) :
    Calls Tryz.prog 17 #[setV D A n c, setV D' A' n' c'] w fun e w' => GatherRet D.toNat w e w' D (meetE D ps D' ps') := by
  unfold meetE
  by_cases h0 : bothE D ps D' ps' ≠ 0
  · rw [if_pos h0]
    exact (ref_meet_bad D A n c ps D' A' n' c' ps' w h h' h0).mono fun e w' h => gather_none h0 h
  · rw [if_neg h0]
    obtain ⟨hv1, hv2, rfl⟩ := both_ok (show bothE D ps D' ps' = 0 by simpa using h0)
    exact ref_meet D A n c ps A' n' c' ps' w h h' hv1 hv2 hC hC'
end Go.Proofs.YtkgnlloioaobiaaGreat
