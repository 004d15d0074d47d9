/-
  Part 7 of the texts that the laws stand on, merged: what each part says stands at its own head.
-/
import Derived.Test.YtkgnlloioaobiaaGreatMf

/-
  The reference's Piece.
-/
namespace Go.Proofs.YtkgnlloioaobiaaGreat
open Go.RowKit
set_option linter.unusedVariables false
set_option linter.unusedSimpArgs false
set_option maxRecDepth 100000

theorem void_ret {n : Nat} {w w' : World} {e : Ending} {r : List CD × Bool × Int} (hr : r = ([], true, 0)) (he : e = .returned (.tuple #[.slice none 0 0, .bool true, .int .i64 0])) (hb : Below w.heap.size w w') : PieceRet w e w' n r := by
  subst hr
  exact ⟨none, 0, 0, [], he, CL.nil _ _, rfl, (fun e h => nomatch h), hb⟩



theorem full_ret {n : Nat} {w w' : World} {e : Ending} {r : List CD × Bool × Int} (hr : r = ([], false, 3)) (he : e = .returned (.tuple #[.slice none 0 0, .bool false, .int .i64 3])) (hb : Below w.heap.size w w') : PieceRet w e w' n r := by
  subst hr
  exact ⟨none, 0, 0, [], he, CL.nil _ _, rfl, (fun e h => nomatch h), hb⟩

theorem own_new {u : Value} {g k c b s : Nat} (hf : u.ownBlock = some g ∨ g = s) (hu : u.ownBlock ≠ some b) (hb : b < s) : (Value.slice (some ⟨g, 0, none⟩) k c).ownBlock ≠ some b := fun e => by
  have e2 : g = b := by simpa [Value.ownBlock] using e
  subst e2
  rcases hf with h | h
  · exact hu h
  · omega




set_option maxHeartbeats 8000000 in
theorem ref_piece {n : Nat} (hn12 : n ≤ 12) {A : Option Addr} {m c : Nat} {els0 : List CEl} (w : World) (C0 : CondsAt w A m els0) (hpre : ∀ e ∈ els0, PreB n e) (hm : m ≤ 1000) :
    Calls Tryz.prog 55 #[.slice A m c] w fun e w' => PieceRet w e w' n (pieceD n (els0.map CEl.d)) := by
  have HPRE := Lib.hid hpre
  have HND := Lib.hid (norm_all C0.ints hpre)
  have HL := Lib.hid C0.len
  obtain ⟨ds, hds⟩ : ∃ ds, els0.map CEl.d = ds := ⟨_, rfl⟩
  rw [hds] at HND ⊢
  have HDS := Lib.hid hds
  obtain ⟨pd, hpd⟩ : ∃ pd, pieceD n ds = pd := ⟨_, rfl⟩
  rw [hpd]
  have HPD := Lib.hid hpd
  clear hpre hds hpd
  go_enter Tryz.func55, Tryz.ntmps55
  go_wp2
  go_loopw [5, 6, 7, 8, 36] (fun f g e v k wr => ∃ (i : Nat) (fu : Bool) (G E V : List CEl), i ≤ m ∧ k = .int .i64 i ∧ f = .bool fu ∧ Three n w.heap.size wr (normOut n (ds.take i)) g e v G E V ∧ Hid (normVoid n (ds.take i) = false) ∧ Hid (fu = !normFits n (ds.take i)) ∧ Hid ((normOut n (ds.take i)).length ≤ i) ∧ Below w.heap.size w wr) (fun _ _ _ _ k _ => m - (intOf k).toNat)
  case atStart => exact ⟨0, false, [], [], [], Nat.zero_le _, rfl, rfl, Three.nil _ _ _, Lib.hid rfl, Lib.hid rfl, Lib.hid (Nat.le_refl _), Below.refl _ _⟩
  case round =>
    obtain ⟨i, fu, G, E, V, hi, rfl, rfl, hT, HV, HF, HLN, hbr⟩ := hrel
    by_cases hlt : i < m
    · obtain ⟨b, off, e, rfl, hblt, hej, hmem, hcs, hin⟩ := (C0.step hbr).at hlt
      obtain ⟨x0, x1, x2, x3⟩ := hcs
      have HDJ0 := Lib.hid (show ds[i]? = some e.d by rw [← HDS.out, List.getElem?_map, hej]; rfl)
      obtain ⟨hen, hek, heK, hex⟩ := HPRE.out e hmem
      obtain ⟨eq, eM, eA, en, ec, eK, exs⟩ := e
      simp only at x0 x1 x2 x3 hin hen hek heK hex
      have HDJ := Lib.hid (show ds[i]? = some (⟨eq, eM, exs, eK⟩ : CD) from HDJ0.out)
      clear HDJ0
      subst hen
      have hq1 : (i : Int) < m := by omega
      have b5 := below_alloc wr (.cells #[.int .i64 eq, .int .i64 eM, .slice eA en ec, .int .i64 eK] 56)
      have X1 := CBox.new wr eq eM eA en ec eK
      have c0 := X1.c0
      have c1 := X1.c1
      have c2 := X1.c2
      have c3 := X1.c3
      have hT3 := hT.few
      have HIL := Lib.hid hin.len
      have T5 := hT.step b5
      have hb5 := hbr.trans (b5.mono hbr.size)
      have HMD := Lib.hid (fun W (I : IntsAt W eA en exs) => ref_made eq eM eA en ec (by omega) eK exs hek (by omega) (fun x hx => by have := hex x hx; omega) W I)
      have hst := nf_state (K := eK) hin.len hek
      have I5 := hin.step b5
      have HSZ := Lib.hid b5.size
      obtain ⟨r, hr⟩ : ∃ r, nf eq eM en exs eK = r := ⟨_, rfl⟩
      have HR := Lib.hid hr
      rw [hr] at HMD hst
      obtain ⟨rq, rM, rX, rK, rs⟩ := r
      simp only at hst
      have HNO := Lib.hid (fun (z : CD) (hz : z ∈ openD en ⟨eq, eM, exs, eK⟩) => HND.out z (List.mem_flatMap.2 ⟨_, List.mem_of_getElem? HDJ.out, hz⟩))
      have HOS := Lib.hid (open_snoc (n := en) HDJ.out)
      have HFS := Lib.hid (fits_snoc3 (n := en) HDJ.out)
      have hbound : IntKind.i64.wrap ((i : Int) + 1) = (i : Int) + 1 := IntWalk.i64_in _ (by omega)
      clear hej hmem hin hr hT b5 hbound
      rcases hst with ⟨hs, hlX, _⟩ | hs | hs
      · subst hs
        have HVS := Lib.hid (void_snoc (n := en) HDJ.out HV.out (by show (nf eq eM en exs eK).2.2.2.2 ≠ -1; rw [HR.out]; show (0 : Int) ≠ -1; decide))
        have HOZ := Lib.hid (show openD en ⟨eq, eM, exs, eK⟩ = [⟨rq, rM, rX, rK⟩] by
          rw [open_zero (by show (nf eq eM en exs eK).2.2.2.2 = 0; rw [HR.out])]
          show [(⟨(nf eq eM en exs eK).1, (nf eq eM en exs eK).2.1, (nf eq eM en exs eK).2.2.1, (nf eq eM en exs eK).2.2.2.1⟩ : CD)] = _
          rw [HR.out])
        have HZN := Lib.hid (show NormD en ⟨rq, rM, rX, rK⟩ from HNO.out _ (by rw [HOZ.out]; exact List.mem_singleton_self _))
        have HXL := Lib.hid hlX
        have HSZ5 := Lib.hid hb5.size
        have HVC := Lib.hid (show validC rq rM rX rK = validB rX rK by
          have h9 := (nf_valid1 (K := eK) HIL.out hek (by rw [HR.out])).1
          rw [HR.out] at h9
          exact h9)
        obtain ⟨fv, hfv⟩ : ∃ fv, validB rX rK = fv := ⟨_, rfl⟩
        rw [hfv] at HVC
        have HFV := Lib.hid hfv
        have HF3 := hT3
        have HCG := Lib.hid (show G.length + 1 ≤ 100000 by have h1 := HF3.1; have h2 := HLN.out; omega)
        have HCE := Lib.hid (show E.length + 1 ≤ 100000 by have h1 := HF3.2.1; have h2 := HLN.out; omega)
        have HCV := Lib.hid (show V.length + 1 ≤ 100000 by have h1 := HF3.2.2; have h2 := HLN.out; omega)
        clear hlX hfv HF3 hT3
        cases fu
        · have HFU := Lib.hid (show (!fv) = !normFits en (ds.take (i + 1)) by
            rw [HFS.out, HOZ.out]
            have h9 := HF.out
            simp only [List.all_cons, List.all_nil, Bool.and_true]
            rw [show fitD (⟨rq, rM, rX, rK⟩ : CD) = fv from HFV.out]
            cases hh : normFits en (ds.take i)
            · rw [hh] at h9; cases h9
            · rfl)
          rcases HZN.out.q with hrq | hrq | hrq
          · have hrq : rq = 0 := hrq
            subst hrq
            go_wp2_with (first | (go_at_call 81; refine (HMD.out _ I5).mono ?_; rintro x w2 ⟨A2, n2, c2', rfl, J2, hb, hfr⟩; have b9 := below_alloc w2 (.cells #[.int .i64 0, .int .i64 rM, .slice A2 n2 c2', .int .i64 rK] 56); have hx := below_step hb b9; have T6 := T5.step hx; have hb6 := hb5.trans (hx.mono hb5.size); have J6 := J2.step b9; have R6 := (FreshRow.ok hfr HSZ5.out).step b9; have Z6 := CBox.new w2 0 rM A2 n2 c2' rK; have z0 := Z6.c0; have z1 := Z6.c1; have z2 := Z6.c2; have z3 := Z6.c3; have HN2 := Lib.hid (show n2 = en from J2.len.symm.trans HXL.out); have hsz6 : w.heap.size ≤ (w2.alloc (.cells #[.int .i64 0, .int .i64 rM, .slice A2 n2 c2', .int .i64 rK] 56)).heap.size := hb6.size; have b10 := below_alloc (w2.alloc (.cells #[.int .i64 0, .int .i64 rM, .slice A2 n2 c2', .int .i64 rK] 56)) (.cells #[.int .i64 0, .int .i64 rM, .slice A2 n2 c2', .int .i64 rK] 56); have HROW := Lib.hid (show ((w2.alloc (.cells #[.int .i64 0, .int .i64 rM, .slice A2 n2 c2', .int .i64 rK] 56)).alloc (.cells #[.int .i64 0, .int .i64 rM, .slice A2 n2 c2', .int .i64 rK] 56)).heap[w2.heap.size + 1]? = some (.cells (CEl.cells ⟨0, rM, A2, n2, c2', rK, rX⟩).toArray 56 (0, 0)) from (by have h9 := heap_alloc_new (w2.alloc (.cells #[.int .i64 0, .int .i64 rM, .slice A2 n2 c2', .int .i64 rK] 56)) (.cells #[.int .i64 0, .int .i64 rM, .slice A2 n2 c2', .int .i64 rK] 56); rw [World.size_alloc] at h9; exact h9)); clear hb b9 hx hfr) | (go_at_call 58; refine (ref_cvalid 0 rM A2 n2 c2' rK rX _ J6).mono ?_; rintro x w3 ⟨rfl, hb⟩; rw [HVC.out]; have T7 := T6.step hb; have hb7 := hb6.trans (hb.mono hb6.size); have J7 := J6.step hb; have R7 := R6.step hb; have Z7 := Z6.step hb; clear z0 z1 z2 z3; have z0 := Z7.c0; have z1 := Z7.c1; have z2 := Z7.c2; have z3 := Z7.c3; have b11 := below_alloc w3 (.cells #[.int .i64 0, .int .i64 rM, .slice A2 n2 c2', .int .i64 rK] 56); have hsz7 : w.heap.size ≤ w3.heap.size := hb7.size; clear hb) | (at_builtin; refine wpList_append_cond3 rfl _ _ 34 rfl rfl rfl (T7.g.step b11) w3.heap.size ⟨0, rM, A2, n2, c2', rK, rX⟩ rfl (heap_alloc_new w3 (.cells #[.int .i64 0, .int .i64 rM, .slice A2 n2 c2', .int .i64 rK] 56)) (J7.step b11) (R7.step b11) HCG.out (hb7.trans (b11.mono hb7.size)).size ?_; intro g9 cap9 w9 L9 hgr9 hb9 hf9; have T9 := Three.addG (x := ⟨0, rM, A2, n2, c2', rK, rX⟩) (T7.step b11) rfl HN2.out L9 hgr9 hf9; have hb12 := (hb7.trans (b11.mono hb7.size)).trans hb9; clear L9 hgr9 hf9 hb9))
            go_roundw
            case rel => exact ⟨i + 1, !fv, G ++ [⟨0, rM, A2, n2, c2', rK, rX⟩], E, V, by omega, by go_num, by first | rfl | simp, by rw [HOS.out, HOZ.out]; exact T9, HVS, HFU, Lib.hid (by rw [HOS.out, HOZ.out, List.length_append]; have := HLN.out; simp; omega), hb12⟩
            case measure => simp [intOf]; omega
          · have hrq : rq = 1 := hrq
            subst hrq
            go_wp2_with (first | (go_at_call 81; refine (HMD.out _ I5).mono ?_; rintro x w2 ⟨A2, n2, c2', rfl, J2, hb, hfr⟩; have b9 := below_alloc w2 (.cells #[.int .i64 1, .int .i64 rM, .slice A2 n2 c2', .int .i64 rK] 56); have hx := below_step hb b9; have T6 := T5.step hx; have hb6 := hb5.trans (hx.mono hb5.size); have J6 := J2.step b9; have R6 := (FreshRow.ok hfr HSZ5.out).step b9; have Z6 := CBox.new w2 1 rM A2 n2 c2' rK; have z0 := Z6.c0; have z1 := Z6.c1; have z2 := Z6.c2; have z3 := Z6.c3; have HN2 := Lib.hid (show n2 = en from J2.len.symm.trans HXL.out); have hsz6 : w.heap.size ≤ (w2.alloc (.cells #[.int .i64 1, .int .i64 rM, .slice A2 n2 c2', .int .i64 rK] 56)).heap.size := hb6.size; have b10 := below_alloc (w2.alloc (.cells #[.int .i64 1, .int .i64 rM, .slice A2 n2 c2', .int .i64 rK] 56)) (.cells #[.int .i64 1, .int .i64 rM, .slice A2 n2 c2', .int .i64 rK] 56); have HROW := Lib.hid (show ((w2.alloc (.cells #[.int .i64 1, .int .i64 rM, .slice A2 n2 c2', .int .i64 rK] 56)).alloc (.cells #[.int .i64 1, .int .i64 rM, .slice A2 n2 c2', .int .i64 rK] 56)).heap[w2.heap.size + 1]? = some (.cells (CEl.cells ⟨1, rM, A2, n2, c2', rK, rX⟩).toArray 56 (0, 0)) from (by have h9 := heap_alloc_new (w2.alloc (.cells #[.int .i64 1, .int .i64 rM, .slice A2 n2 c2', .int .i64 rK] 56)) (.cells #[.int .i64 1, .int .i64 rM, .slice A2 n2 c2', .int .i64 rK] 56); rw [World.size_alloc] at h9; exact h9)); clear hb b9 hx hfr) | (go_at_call 58; refine (ref_cvalid 1 rM A2 n2 c2' rK rX _ J6).mono ?_; rintro x w3 ⟨rfl, hb⟩; rw [HVC.out]; have T7 := T6.step hb; have hb7 := hb6.trans (hb.mono hb6.size); have J7 := J6.step hb; have R7 := R6.step hb; have Z7 := Z6.step hb; clear z0 z1 z2 z3; have z0 := Z7.c0; have z1 := Z7.c1; have z2 := Z7.c2; have z3 := Z7.c3; have b11 := below_alloc w3 (.cells #[.int .i64 1, .int .i64 rM, .slice A2 n2 c2', .int .i64 rK] 56); have hsz7 : w.heap.size ≤ w3.heap.size := hb7.size; clear hb) | (at_builtin; refine wpList_append_cond3 rfl _ _ 34 rfl rfl rfl (T7.e.step b11) w3.heap.size ⟨1, rM, A2, n2, c2', rK, rX⟩ rfl (heap_alloc_new w3 (.cells #[.int .i64 1, .int .i64 rM, .slice A2 n2 c2', .int .i64 rK] 56)) (J7.step b11) (R7.step b11) HCE.out (hb7.trans (b11.mono hb7.size)).size ?_; intro g9 cap9 w9 L9 hgr9 hb9 hf9; have T9 := Three.addE (x := ⟨1, rM, A2, n2, c2', rK, rX⟩) (T7.step b11) rfl HN2.out L9 hgr9 hf9; have hb12 := (hb7.trans (b11.mono hb7.size)).trans hb9; clear L9 hgr9 hf9 hb9))
            go_roundw
            case rel => exact ⟨i + 1, !fv, G, E ++ [⟨1, rM, A2, n2, c2', rK, rX⟩], V, by omega, by go_num, by first | rfl | simp, by rw [HOS.out, HOZ.out]; exact T9, HVS, HFU, Lib.hid (by rw [HOS.out, HOZ.out, List.length_append]; have := HLN.out; simp; omega), hb12⟩
            case measure => simp [intOf]; omega
          · have hrq : rq = 2 := hrq
            subst hrq
            go_wp2_with (first | (go_at_call 81; refine (HMD.out _ I5).mono ?_; rintro x w2 ⟨A2, n2, c2', rfl, J2, hb, hfr⟩; have b9 := below_alloc w2 (.cells #[.int .i64 2, .int .i64 rM, .slice A2 n2 c2', .int .i64 rK] 56); have hx := below_step hb b9; have T6 := T5.step hx; have hb6 := hb5.trans (hx.mono hb5.size); have J6 := J2.step b9; have R6 := (FreshRow.ok hfr HSZ5.out).step b9; have Z6 := CBox.new w2 2 rM A2 n2 c2' rK; have z0 := Z6.c0; have z1 := Z6.c1; have z2 := Z6.c2; have z3 := Z6.c3; have HN2 := Lib.hid (show n2 = en from J2.len.symm.trans HXL.out); have hsz6 : w.heap.size ≤ (w2.alloc (.cells #[.int .i64 2, .int .i64 rM, .slice A2 n2 c2', .int .i64 rK] 56)).heap.size := hb6.size; have b10 := below_alloc (w2.alloc (.cells #[.int .i64 2, .int .i64 rM, .slice A2 n2 c2', .int .i64 rK] 56)) (.cells #[.int .i64 2, .int .i64 rM, .slice A2 n2 c2', .int .i64 rK] 56); have HROW := Lib.hid (show ((w2.alloc (.cells #[.int .i64 2, .int .i64 rM, .slice A2 n2 c2', .int .i64 rK] 56)).alloc (.cells #[.int .i64 2, .int .i64 rM, .slice A2 n2 c2', .int .i64 rK] 56)).heap[w2.heap.size + 1]? = some (.cells (CEl.cells ⟨2, rM, A2, n2, c2', rK, rX⟩).toArray 56 (0, 0)) from (by have h9 := heap_alloc_new (w2.alloc (.cells #[.int .i64 2, .int .i64 rM, .slice A2 n2 c2', .int .i64 rK] 56)) (.cells #[.int .i64 2, .int .i64 rM, .slice A2 n2 c2', .int .i64 rK] 56); rw [World.size_alloc] at h9; exact h9)); clear hb b9 hx hfr) | (go_at_call 58; refine (ref_cvalid 2 rM A2 n2 c2' rK rX _ J6).mono ?_; rintro x w3 ⟨rfl, hb⟩; rw [HVC.out]; have T7 := T6.step hb; have hb7 := hb6.trans (hb.mono hb6.size); have J7 := J6.step hb; have R7 := R6.step hb; have Z7 := Z6.step hb; clear z0 z1 z2 z3; have z0 := Z7.c0; have z1 := Z7.c1; have z2 := Z7.c2; have z3 := Z7.c3; have b11 := below_alloc w3 (.cells #[.int .i64 2, .int .i64 rM, .slice A2 n2 c2', .int .i64 rK] 56); have hsz7 : w.heap.size ≤ w3.heap.size := hb7.size; clear hb) | (at_builtin; refine wpList_append_cond3 rfl _ _ 34 rfl rfl rfl (T7.v.step b11) w3.heap.size ⟨2, rM, A2, n2, c2', rK, rX⟩ rfl (heap_alloc_new w3 (.cells #[.int .i64 2, .int .i64 rM, .slice A2 n2 c2', .int .i64 rK] 56)) (J7.step b11) (R7.step b11) HCV.out (hb7.trans (b11.mono hb7.size)).size ?_; intro g9 cap9 w9 L9 hgr9 hb9 hf9; have T9 := Three.addV (x := ⟨2, rM, A2, n2, c2', rK, rX⟩) (T7.step b11) rfl HN2.out L9 hgr9 hf9; have hb12 := (hb7.trans (b11.mono hb7.size)).trans hb9; clear L9 hgr9 hf9 hb9))
            go_roundw
            case rel => exact ⟨i + 1, !fv, G, E, V ++ [⟨2, rM, A2, n2, c2', rK, rX⟩], by omega, by go_num, by first | rfl | simp, by rw [HOS.out, HOZ.out]; exact T9, HVS, HFU, Lib.hid (by rw [HOS.out, HOZ.out, List.length_append]; have := HLN.out; simp; omega), hb12⟩
            case measure => simp [intOf]; omega
        · have HFU := Lib.hid (show true = !normFits en (ds.take (i + 1)) by
            rw [HFS.out]
            have h9 := HF.out
            cases hh : normFits en (ds.take i)
            · rfl
            · rw [hh] at h9; cases h9)
          rcases HZN.out.q with hrq | hrq | hrq
          · have hrq : rq = 0 := hrq
            subst hrq
            go_wp2_with (first | (go_at_call 81; refine (HMD.out _ I5).mono ?_; rintro x w2 ⟨A2, n2, c2', rfl, J2, hb, hfr⟩; have b9 := below_alloc w2 (.cells #[.int .i64 0, .int .i64 rM, .slice A2 n2 c2', .int .i64 rK] 56); have hx := below_step hb b9; have T6 := T5.step hx; have hb6 := hb5.trans (hx.mono hb5.size); have J6 := J2.step b9; have R6 := (FreshRow.ok hfr HSZ5.out).step b9; have Z6 := CBox.new w2 0 rM A2 n2 c2' rK; have z0 := Z6.c0; have z1 := Z6.c1; have z2 := Z6.c2; have z3 := Z6.c3; have HN2 := Lib.hid (show n2 = en from J2.len.symm.trans HXL.out); have hsz6 : w.heap.size ≤ (w2.alloc (.cells #[.int .i64 0, .int .i64 rM, .slice A2 n2 c2', .int .i64 rK] 56)).heap.size := hb6.size; have b10 := below_alloc (w2.alloc (.cells #[.int .i64 0, .int .i64 rM, .slice A2 n2 c2', .int .i64 rK] 56)) (.cells #[.int .i64 0, .int .i64 rM, .slice A2 n2 c2', .int .i64 rK] 56); have HROW := Lib.hid (show ((w2.alloc (.cells #[.int .i64 0, .int .i64 rM, .slice A2 n2 c2', .int .i64 rK] 56)).alloc (.cells #[.int .i64 0, .int .i64 rM, .slice A2 n2 c2', .int .i64 rK] 56)).heap[w2.heap.size + 1]? = some (.cells (CEl.cells ⟨0, rM, A2, n2, c2', rK, rX⟩).toArray 56 (0, 0)) from (by have h9 := heap_alloc_new (w2.alloc (.cells #[.int .i64 0, .int .i64 rM, .slice A2 n2 c2', .int .i64 rK] 56)) (.cells #[.int .i64 0, .int .i64 rM, .slice A2 n2 c2', .int .i64 rK] 56); rw [World.size_alloc] at h9; exact h9)); clear hb b9 hx hfr) | (at_builtin; refine wpList_append_cond3 rfl _ _ 34 rfl rfl rfl (T6.g.step b10) (w2.heap.size + 1) ⟨0, rM, A2, n2, c2', rK, rX⟩ rfl HROW.out (J6.step b10) (R6.step b10) HCG.out (hb6.trans (b10.mono hb6.size)).size ?_; intro g9 cap9 w9 L9 hgr9 hb9 hf9; have T9 := Three.addG (x := ⟨0, rM, A2, n2, c2', rK, rX⟩) (T6.step b10) rfl HN2.out L9 hgr9 hf9; have hb12 := (hb6.trans (b10.mono hb6.size)).trans hb9; clear L9 hgr9 hf9 hb9))
            go_roundw
            case rel => exact ⟨i + 1, true, G ++ [⟨0, rM, A2, n2, c2', rK, rX⟩], E, V, by omega, by go_num, by first | rfl | simp, by rw [HOS.out, HOZ.out]; exact T9, HVS, HFU, Lib.hid (by rw [HOS.out, HOZ.out, List.length_append]; have := HLN.out; simp; omega), hb12⟩
            case measure => simp [intOf]; omega
          · have hrq : rq = 1 := hrq
            subst hrq
            go_wp2_with (first | (go_at_call 81; refine (HMD.out _ I5).mono ?_; rintro x w2 ⟨A2, n2, c2', rfl, J2, hb, hfr⟩; have b9 := below_alloc w2 (.cells #[.int .i64 1, .int .i64 rM, .slice A2 n2 c2', .int .i64 rK] 56); have hx := below_step hb b9; have T6 := T5.step hx; have hb6 := hb5.trans (hx.mono hb5.size); have J6 := J2.step b9; have R6 := (FreshRow.ok hfr HSZ5.out).step b9; have Z6 := CBox.new w2 1 rM A2 n2 c2' rK; have z0 := Z6.c0; have z1 := Z6.c1; have z2 := Z6.c2; have z3 := Z6.c3; have HN2 := Lib.hid (show n2 = en from J2.len.symm.trans HXL.out); have hsz6 : w.heap.size ≤ (w2.alloc (.cells #[.int .i64 1, .int .i64 rM, .slice A2 n2 c2', .int .i64 rK] 56)).heap.size := hb6.size; have b10 := below_alloc (w2.alloc (.cells #[.int .i64 1, .int .i64 rM, .slice A2 n2 c2', .int .i64 rK] 56)) (.cells #[.int .i64 1, .int .i64 rM, .slice A2 n2 c2', .int .i64 rK] 56); have HROW := Lib.hid (show ((w2.alloc (.cells #[.int .i64 1, .int .i64 rM, .slice A2 n2 c2', .int .i64 rK] 56)).alloc (.cells #[.int .i64 1, .int .i64 rM, .slice A2 n2 c2', .int .i64 rK] 56)).heap[w2.heap.size + 1]? = some (.cells (CEl.cells ⟨1, rM, A2, n2, c2', rK, rX⟩).toArray 56 (0, 0)) from (by have h9 := heap_alloc_new (w2.alloc (.cells #[.int .i64 1, .int .i64 rM, .slice A2 n2 c2', .int .i64 rK] 56)) (.cells #[.int .i64 1, .int .i64 rM, .slice A2 n2 c2', .int .i64 rK] 56); rw [World.size_alloc] at h9; exact h9)); clear hb b9 hx hfr) | (at_builtin; refine wpList_append_cond3 rfl _ _ 34 rfl rfl rfl (T6.e.step b10) (w2.heap.size + 1) ⟨1, rM, A2, n2, c2', rK, rX⟩ rfl HROW.out (J6.step b10) (R6.step b10) HCE.out (hb6.trans (b10.mono hb6.size)).size ?_; intro g9 cap9 w9 L9 hgr9 hb9 hf9; have T9 := Three.addE (x := ⟨1, rM, A2, n2, c2', rK, rX⟩) (T6.step b10) rfl HN2.out L9 hgr9 hf9; have hb12 := (hb6.trans (b10.mono hb6.size)).trans hb9; clear L9 hgr9 hf9 hb9))
            go_roundw
            case rel => exact ⟨i + 1, true, G, E ++ [⟨1, rM, A2, n2, c2', rK, rX⟩], V, by omega, by go_num, by first | rfl | simp, by rw [HOS.out, HOZ.out]; exact T9, HVS, HFU, Lib.hid (by rw [HOS.out, HOZ.out, List.length_append]; have := HLN.out; simp; omega), hb12⟩
            case measure => simp [intOf]; omega
          · have hrq : rq = 2 := hrq
            subst hrq
            go_wp2_with (first | (go_at_call 81; refine (HMD.out _ I5).mono ?_; rintro x w2 ⟨A2, n2, c2', rfl, J2, hb, hfr⟩; have b9 := below_alloc w2 (.cells #[.int .i64 2, .int .i64 rM, .slice A2 n2 c2', .int .i64 rK] 56); have hx := below_step hb b9; have T6 := T5.step hx; have hb6 := hb5.trans (hx.mono hb5.size); have J6 := J2.step b9; have R6 := (FreshRow.ok hfr HSZ5.out).step b9; have Z6 := CBox.new w2 2 rM A2 n2 c2' rK; have z0 := Z6.c0; have z1 := Z6.c1; have z2 := Z6.c2; have z3 := Z6.c3; have HN2 := Lib.hid (show n2 = en from J2.len.symm.trans HXL.out); have hsz6 : w.heap.size ≤ (w2.alloc (.cells #[.int .i64 2, .int .i64 rM, .slice A2 n2 c2', .int .i64 rK] 56)).heap.size := hb6.size; have b10 := below_alloc (w2.alloc (.cells #[.int .i64 2, .int .i64 rM, .slice A2 n2 c2', .int .i64 rK] 56)) (.cells #[.int .i64 2, .int .i64 rM, .slice A2 n2 c2', .int .i64 rK] 56); have HROW := Lib.hid (show ((w2.alloc (.cells #[.int .i64 2, .int .i64 rM, .slice A2 n2 c2', .int .i64 rK] 56)).alloc (.cells #[.int .i64 2, .int .i64 rM, .slice A2 n2 c2', .int .i64 rK] 56)).heap[w2.heap.size + 1]? = some (.cells (CEl.cells ⟨2, rM, A2, n2, c2', rK, rX⟩).toArray 56 (0, 0)) from (by have h9 := heap_alloc_new (w2.alloc (.cells #[.int .i64 2, .int .i64 rM, .slice A2 n2 c2', .int .i64 rK] 56)) (.cells #[.int .i64 2, .int .i64 rM, .slice A2 n2 c2', .int .i64 rK] 56); rw [World.size_alloc] at h9; exact h9)); clear hb b9 hx hfr) | (at_builtin; refine wpList_append_cond3 rfl _ _ 34 rfl rfl rfl (T6.v.step b10) (w2.heap.size + 1) ⟨2, rM, A2, n2, c2', rK, rX⟩ rfl HROW.out (J6.step b10) (R6.step b10) HCV.out (hb6.trans (b10.mono hb6.size)).size ?_; intro g9 cap9 w9 L9 hgr9 hb9 hf9; have T9 := Three.addV (x := ⟨2, rM, A2, n2, c2', rK, rX⟩) (T6.step b10) rfl HN2.out L9 hgr9 hf9; have hb12 := (hb6.trans (b10.mono hb6.size)).trans hb9; clear L9 hgr9 hf9 hb9))
            go_roundw
            case rel => exact ⟨i + 1, true, G, E, V ++ [⟨2, rM, A2, n2, c2', rK, rX⟩], by omega, by go_num, by first | rfl | simp, by rw [HOS.out, HOZ.out]; exact T9, HVS, HFU, Lib.hid (by rw [HOS.out, HOZ.out, List.length_append]; have := HLN.out; simp; omega), hb12⟩
            case measure => simp [intOf]; omega
      · subst hs
        have HVS := Lib.hid (void_snoc (n := en) HDJ.out HV.out (by show (nf eq eM en exs eK).2.2.2.2 ≠ -1; rw [HR.out]; show (1 : Int) ≠ -1; decide))
        have HON := Lib.hid (open_not (n := en) (d := ⟨eq, eM, exs, eK⟩) (by show (nf eq eM en exs eK).2.2.2.2 ≠ 0; rw [HR.out]; show (1 : Int) ≠ 0; decide))
        go_wp2_with (go_at_call 81; refine (HMD.out _ I5).mono ?_; rintro x w2 ⟨A2, n2, c2', rfl, J2, hb, _⟩; have b9 := below_alloc w2 (.cells #[.int .i64 rq, .int .i64 rM, .slice A2 n2 c2', .int .i64 rK] 56); have hx := below_step hb b9; have T6 := T5.step hx; have hb6 := hb5.trans (hx.mono hb5.size); clear hb b9 hx)
        go_roundw
        case rel => exact ⟨i + 1, fu, G, E, V, by omega, by go_num, rfl, by rw [HOS.out, HON.out, List.append_nil]; exact T6, HVS, Lib.hid (by rw [HFS.out, HON.out]; simpa using HF.out), Lib.hid (by rw [HOS.out, HON.out, List.append_nil]; have := HLN.out; omega), hb6⟩
        case measure => simp [intOf]; omega
      · subst hs
        have HRV := Lib.hid (show pd = ([], true, 0) by
          rw [← HPD.out]
          unfold pieceD
          rw [if_pos (void_at HDJ.out (by show (nf eq eM en exs eK).2.2.2.2 = -1; rw [HR.out]))])
        go_wp2_with (go_at_call 81; refine (HMD.out _ I5).mono ?_; rintro x w2 ⟨A2, n2, c2', rfl, J2, hb, _⟩; have hx := below_step hb (below_alloc w2 (.cells #[.int .i64 rq, .int .i64 rM, .slice A2 n2 c2', .int .i64 rK] 56)); have hb6 := hb5.trans (hx.mono hb5.size); clear hb hx)
        go_ret3
        exact void_ret HRV.out rfl hb6
    · obtain rfl : i = m := by omega
      have HTK := Lib.hid (show ds.take i = ds from List.take_of_length_le (by rw [← HDS.out, List.length_map, HL.out]; exact Nat.le_refl _))
      rw [HTK.out] at hT HV HF HLN
      obtain ⟨outs, houts⟩ : ∃ outs, normOut n ds = outs := ⟨_, rfl⟩
      rw [houts] at hT HND HLN
      have HOUT := Lib.hid houts
      have HFU := Lib.hid HF.out
      have hi2 : i ≤ 1000 := hm
      have hT3 := hT.few
      have HGL := Lib.hid (show G.length ≤ 1000 by have := hT3.1; have := HLN.out; omega)
      have HGM := Lib.hid hT.gd
      have HQM := Lib.hid (show ∀ a ∈ G.map CEl.d, a.q = 0 ∧ a.M = 0 from fun a ha => by
        rw [HGM.out] at ha
        have h1 := List.mem_filter.1 ha
        have h2 : a.q = 0 := by simpa using h1.2
        exact ⟨h2, (HND.out a h1.1).M (by omega)⟩)
      have hgl : G.length ≤ 1000 := HGL.out
      clear houts hT3 hlt hi
      obtain ⟨A6, c6, rfl⟩ := hT.g.slice
      obtain ⟨A7, c7, rfl⟩ := hT.e.slice
      obtain ⟨A8, c8, rfl⟩ := hT.v.slice
      go_wp2
      go_loopw [13, 76] (fun u k ws => ∃ (i : Nat) (L : List CEl), i ≤ G.length ∧ k = .int .i64 i ∧ CL2 w.heap.size w.heap.size ws u L ∧ Hid (L.map CEl.d = ((G.map CEl.d).take i).foldl lowS []) ∧ Three n w.heap.size ws outs (.slice A6 G.length c6) (.slice A7 E.length c7) (.slice A8 V.length c8) G E V ∧ RowsApart u (.slice A6 G.length c6) ∧ RowsApart u (.slice A7 E.length c7) ∧ RowsApart u (.slice A8 V.length c8) ∧ Hid (∀ x ∈ L, x.n = n) ∧ Hid (L.length ≤ i) ∧ Below w.heap.size w ws) (fun _ k _ => G.length - (intOf k).toNat)
      case atStart => exact ⟨0, [], Nat.zero_le _, rfl, CL2.nil _ _ _, Lib.hid rfl, hT, RowsApart.nil _, RowsApart.nil _, RowsApart.nil _, Lib.hid (fun x h => nomatch h), Lib.hid (Nat.le_refl _), hbr⟩
      case round =>
        obtain ⟨i2, L, hi2, rfl, hU, HLD, hT2, r6, r7, r8, HLn, HLl, hbs⟩ := hrel
        by_cases hlt : i2 < G.length
        · obtain ⟨b, off, e, hA6, hblt, hej, hmem, hcs, hin⟩ := hT2.g.conds.2.at hlt
          subst hA6
          obtain ⟨x0, x1, x2, x3⟩ := hcs
          have HDJ := Lib.hid (show (G.map CEl.d)[i2]? = some e.d by rw [List.getElem?_map, hej]; rfl)
          have HEN := Lib.hid (HND.out e.d (by
            have h1 : e.d ∈ G.map CEl.d := List.mem_map_of_mem hmem
            rw [HGM.out] at h1
            exact (List.mem_filter.1 h1).1))
          have hen : e.n = n := hT2.gn e hmem
          have HMEM := Lib.hid hmem
          obtain ⟨eq, eM, eA, en, ec, eK, exs⟩ := e
          simp only at x0 x1 x2 x3 hin hen
          subst hen
          have HLS := Lib.hid (low_snoc HDJ.out)
          have hq1 : (i2 : Int) < (G.length : Nat) := by omega
          obtain ⟨A13, c13, rfl⟩ := hU.slice
          have b5 := below_alloc wr (.cells #[.int .i64 eq, .int .i64 eM, .slice eA en ec, .int .i64 eK] 56)
          have X1 := CBox.new wr eq eM eA en ec eK
          have I5 := hin.step b5
          have U5 := hU.step b5
          have T5 := hT2.step b5
          have hb5 := hbs.trans (b5.mono hbs.size)
          have HU := Lib.hid hU
          have HBL := Lib.hid (fun (g : Nat) (h : (Value.slice A13 L.length c13).ownBlock = some g) => hU.lt h)
          have hll : L.length ≤ 1000 := by have := HLl.out; omega
          have HLL := Lib.hid HLl.out
          clear hej hmem hin hU hT2 b5
          go_wp2
          generalize wr.alloc (.cells #[.int .i64 eq, .int .i64 eM, .slice eA en ec, .int .i64 eK] 56) = w5 at *
          clear x0 x1 x2 x3
          have HBX := Lib.hid X1.lt
          generalize wr.heap.size = bx at *
          go_loopw [16, 82] (fun f k wt => ∃ (j : Nat) (Lj : List CEl), j ≤ L.length ∧ k = .int .i64 j ∧ f = .bool (((L.map CEl.d).take j).any fun a => a.xs == exs) ∧ CL2 w.heap.size w.heap.size wt (.slice A13 L.length c13) Lj ∧ Hid (Lj.map CEl.d = lowAt (L.map CEl.d) ⟨eq, eM, exs, eK⟩ j) ∧ Three en w.heap.size wt outs (.slice (some ⟨b, off, none⟩) G.length c6) (.slice A7 E.length c7) (.slice A8 V.length c8) G E V ∧ Hid (∀ x ∈ Lj, x.n = en) ∧ CBox wt bx eq eM eA en ec eK ∧ IntsAt wt eA en exs ∧ Below w.heap.size w wt) (fun _ k _ => L.length - (intOf k).toNat)
          case atStart => exact ⟨0, L, Nat.zero_le _, rfl, rfl, U5, Lib.hid rfl, T5, HLn, X1, I5, hb5⟩
          case round =>
            obtain ⟨j, Lj, hj, rfl, rfl, hU6, HLD6, T6, HLn6, X6, I6, hbt⟩ := hrel
            by_cases hlt2 : j < L.length
            · have hq2 : (j : Int) < (L.length : Nat) := by omega
              have hll2 := hU6.conds.1
              obtain ⟨b2, off2, f, hA2, hblt2, hfj, hfm, hcs2, hin2⟩ := hU6.conds.2.at (j := j) (by omega)
              subst hA2
              have HO2 := Lib.hid (show off2 = 0 ∧ w.heap.size ≤ b2 by
                obtain ⟨g, c, hv, hN⟩ := hU6.own_at (j := j) (by omega)
                injection hv with h1 h2 h3
                simp only [Option.some.injEq, Addr.mk.injEq] at h1
                exact ⟨h1.2.1, by omega⟩)
              have HBB := Lib.hid (show b2 < bx from HBL.out b2 rfl)
              have HFJ := Lib.hid hfj
              have HLJ := Lib.hid (show (L.map CEl.d)[j]? = some f.d by
                have h1 : j < (L.map CEl.d).length := by rw [List.length_map]; exact hlt2
                have h2 := lowAt_get (d := ⟨eq, eM, exs, eK⟩) (List.getElem?_eq_getElem h1)
                rw [← HLD6.out, List.getElem?_map, hfj] at h2
                rw [List.getElem?_eq_getElem h1]
                exact h2.symm)
              have hfn : f.n = en := HLn6.out f hfm
              obtain ⟨fq, fM, fA, fn, fc, fK, fxs⟩ := f
              obtain ⟨y0, y1, y2, y3⟩ := hcs2
              simp only at y0 y1 y2 y3 hin2 hfn
              have hfn2 : en = fn := hfn.symm
              subst hfn2
              obtain ⟨o, ho⟩ : ∃ o, sidesI fxs exs = o := ⟨_, rfl⟩
              have HSI := Lib.hid (fun W (h1 : IntsAt W fA en fxs) (h2 : IntsAt W eA en exs) => (ref_sides fq fM fA en fc fK fxs eq eM eA ec eK exs W h1 h2 (fun y hy => by have h9 : -2305843009213693952 ≤ y ∧ y ≤ 2305843009213693952 := HEN.out.x y hy; omega)).mono fun x w' h => (show x = .returned (.int .i64 o) ∧ Below W.heap.size W w' from ⟨by rw [h.1, ho], by obtain ⟨q, os', rfl⟩ := h.2; exact below_grow q os'⟩))
              have HO := Lib.hid ho
              have c0 := X6.c0
              have c1 := X6.c1
              have c2 := X6.c2
              have c3 := X6.c3
              have HSD := Lib.hid (show (fun W : World => W.cell? ⟨b2, off2 + j * 4, none⟩ = some (.int .i64 fq) ∧ W.cell? ⟨b2, off2 + j * 4 + 1, none⟩ = some (.int .i64 fM) ∧ W.cell? ⟨b2, off2 + j * 4 + 2, none⟩ = some (.slice fA en fc) ∧ W.cell? ⟨b2, off2 + j * 4 + 3, none⟩ = some (.int .i64 fK) ∧ W.cell? ⟨bx, 0, none⟩ = some (.int .i64 eq) ∧ W.cell? ⟨bx, 1, none⟩ = some (.int .i64 eM) ∧ W.cell? ⟨bx, 2, none⟩ = some (.slice eA en ec) ∧ W.cell? ⟨bx, 3, none⟩ = some (.int .i64 eK)) wr.drew from ⟨by simpa using y0, by simpa using y1, by simpa using y2, by simpa using y3, by simpa using c0, by simpa using c1, by simpa using c2, by simpa using c3⟩)
              clear hfj hfm ho hll2
              by_cases hx1 : o = 1
              · subst hx1
                have HXE := Lib.hid (show fxs = exs by
                  have h9 := HO.out
                  unfold sidesI at h9
                  split at h9
                  · assumption
                  · split at h9 <;> cases h9)
                go_wp2
                go_region_held3 (fun W => W.cell? ⟨b2, off2 + j * 4, none⟩ = some (.int .i64 fq) ∧ W.cell? ⟨b2, off2 + j * 4 + 1, none⟩ = some (.int .i64 fM) ∧ W.cell? ⟨b2, off2 + j * 4 + 2, none⟩ = some (.slice fA en fc) ∧ W.cell? ⟨b2, off2 + j * 4 + 3, none⟩ = some (.int .i64 fK) ∧ W.cell? ⟨bx, 0, none⟩ = some (.int .i64 eq) ∧ W.cell? ⟨bx, 1, none⟩ = some (.int .i64 eM) ∧ W.cell? ⟨bx, 2, none⟩ = some (.slice eA en ec) ∧ W.cell? ⟨bx, 3, none⟩ = some (.int .i64 eK)) (first | with_reducible exact ⟨y0, y1, y2, y3, c0, c1, c2, c3⟩ | with_reducible exact HSD.out | with_reducible exact ⟨z0, z1, z2, z3, d0, d1, d2, d3⟩ | go_keep)
                  (first | (go_at_call 82; refine (HSI.out _ (hin2.step (Below.refl _ _).drew) (I6.step (Below.refl _ _).drew)).mono ?_; rintro x w6 ⟨rfl, hb⟩; have hx := below_step (Below.refl _ wr).drew hb; have X7 := X6.step hx; have U7 := hU6.step hx; have I7 := I6.step hx; have T7 := T6.step hx; have z0 := (hx.cell (p := ⟨b2, off2 + j * 4, none⟩) hblt2).trans y0; have z1 := (hx.cell (p := ⟨b2, off2 + j * 4 + 1, none⟩) hblt2).trans y1; have z2 := (hx.cell (p := ⟨b2, off2 + j * 4 + 2, none⟩) hblt2).trans y2; have z3 := (hx.cell (p := ⟨b2, off2 + j * 4 + 3, none⟩) hblt2).trans y3; have d0 := X7.c0; have d1 := X7.c1; have d2 := X7.c2; have d3 := X7.c3; have hbt7 := Lib.hid (hbt.trans (hx.mono hbt.size)); have hxs := hx.size; clear hb y0 y1 y2 y3 c0 c1 c2 c3))
                rename_i hHeld
                clear hHeld
                have hfz : w6.frozen? ⟨b2, off2 + j * 4 + 3, none⟩ = false := by
                  have h1 := HO2.out.1
                  subst h1
                  have h2 := U7.conds.1
                  have h3 := U7
                  rw [h2] at h3
                  exact World.ownsRow.frozenAt h3.own (0 + j * 4 + 3)
                go_wp2
                go_region
                go_wp2
                go_roundw
                case rel =>
                  obtain ⟨h0, hNb⟩ := HO2.out
                  subst h0
                  have hW : (⟨b2, 0 + j * 4 + 2 + 1, none⟩ : Addr) = ⟨b2, j * 4 + 3, none⟩ := by
                    rw [show 0 + j * 4 + 2 + 1 = j * 4 + 3 by omega]
                  rw [hW]
                  have hd := (Below.refl (w6.setCell ⟨b2, j * 4 + 3, none⟩ (.int .i64 (min fK eK))).heap.size (w6.setCell ⟨b2, j * 4 + 3, none⟩ (.int .i64 (min fK eK)))).drew
                  have UK := (U7.setK HFJ.out (min fK eK)).step hd
                  have TK := (T7.others U7 (grown_set w6 ⟨b2, j * 4 + 3, none⟩ (.int .i64 (min fK eK))) r6 r7 r8).step hd
                  have XK := (X7.step' (a := ⟨b2, j * 4 + 3, none⟩) (by have := HBB.out; show bx ≠ b2; omega) (.int .i64 (min fK eK))).step hd
                  have hdl := lowAt_set (d := ⟨eq, eM, exs, eK⟩) HLJ.out
                  have han := any_snoc (d := ⟨eq, eM, exs, eK⟩) HLJ.out
                  refine ⟨j + 1, _, by omega, by go_num, ?_, UK, Lib.hid ?_, TK, Lib.hid ?_, XK, TK.g.ints _ HMEM.out, (hbt7.out.setCell hNb _).drew⟩
                  · refine congrArg Value.bool ?_
                    refine Eq.trans ?_ han.symm
                    rw [show (CEl.d ⟨fq, fM, fA, en, fc, fK, fxs⟩).xs = exs from HXE.out]
                    simp
                  · rw [setK_d, hdl, HLD6.out]
                    unfold lowF
                    rw [if_pos (show (CEl.d ⟨fq, fM, fA, en, fc, fK, fxs⟩).xs = exs from HXE.out)]
                    rfl
                  · intro x hx
                    rcases List.mem_or_eq_of_mem_set hx with hx | rfl
                    · exact HLn6.out x hx
                    · rfl
                case measure => simp [intOf]; omega
              · have HXN := Lib.hid (show fxs ≠ exs from fun h => hx1 (by rw [← HO.out]; unfold sidesI; rw [if_pos h]))
                have HANY := Lib.hid (show (((L.map CEl.d).take j).any fun a => a.xs == exs) = (((L.map CEl.d).take (j + 1)).any fun a => a.xs == exs) by
                  have h9 := any_snoc (d := ⟨eq, eM, exs, eK⟩) HLJ.out
                  have h8 : ((fxs : List Int) == exs) = false := by simpa using HXN.out
                  rw [show (CEl.d ⟨fq, fM, fA, en, fc, fK, fxs⟩).xs = fxs from rfl, h8, Bool.or_false] at h9
                  exact h9.symm)
                have HLA := Lib.hid (show Lj.map CEl.d = lowAt (L.map CEl.d) ⟨eq, eM, exs, eK⟩ (j + 1) by rw [lowAt_skip (d := ⟨eq, eM, exs, eK⟩) (a := ⟨fq, fM, fxs, fK⟩) HLJ.out HXN.out]; exact HLD6.out)
                go_wp2
                go_region_held3 (fun W => W.cell? ⟨b2, off2 + j * 4, none⟩ = some (.int .i64 fq) ∧ W.cell? ⟨b2, off2 + j * 4 + 1, none⟩ = some (.int .i64 fM) ∧ W.cell? ⟨b2, off2 + j * 4 + 2, none⟩ = some (.slice fA en fc) ∧ W.cell? ⟨b2, off2 + j * 4 + 3, none⟩ = some (.int .i64 fK) ∧ W.cell? ⟨bx, 0, none⟩ = some (.int .i64 eq) ∧ W.cell? ⟨bx, 1, none⟩ = some (.int .i64 eM) ∧ W.cell? ⟨bx, 2, none⟩ = some (.slice eA en ec) ∧ W.cell? ⟨bx, 3, none⟩ = some (.int .i64 eK)) (first | with_reducible exact ⟨y0, y1, y2, y3, c0, c1, c2, c3⟩ | with_reducible exact HSD.out | with_reducible exact ⟨z0, z1, z2, z3, d0, d1, d2, d3⟩ | go_keep)
                  (first | (go_at_call 82; refine (HSI.out _ (hin2.step (Below.refl _ _).drew) (I6.step (Below.refl _ _).drew)).mono ?_; rintro x w6 ⟨rfl, hb⟩; have hx := below_step (Below.refl _ wr).drew hb; have X7 := X6.step hx; have U7 := hU6.step hx; have I7 := I6.step hx; have T7 := T6.step hx; have z0 := (hx.cell (p := ⟨b2, off2 + j * 4, none⟩) hblt2).trans y0; have z1 := (hx.cell (p := ⟨b2, off2 + j * 4 + 1, none⟩) hblt2).trans y1; have z2 := (hx.cell (p := ⟨b2, off2 + j * 4 + 2, none⟩) hblt2).trans y2; have z3 := (hx.cell (p := ⟨b2, off2 + j * 4 + 3, none⟩) hblt2).trans y3; have d0 := X7.c0; have d1 := X7.c1; have d2 := X7.c2; have d3 := X7.c3; have hbt7 := Lib.hid (hbt.trans (hx.mono hbt.size)); have hxs := hx.size; clear hb y0 y1 y2 y3 c0 c1 c2 c3))
                rename_i hHeld
                clear hHeld
                go_wp2
                go_roundw
                case rel => exact ⟨j + 1, Lj, by omega, by go_num, by first | exact congrArg Value.bool HANY.out | (simp only [HANY.out]), U7, HLA, T7, HLn6, X7, I7, hbt7.out⟩
                case measure => simp [intOf]; omega
            · obtain rfl : j = L.length := by omega
              have HAE := Lib.hid (lowAt_end (L.map CEl.d) ⟨eq, eM, exs, eK⟩)
              have hml : L.length = (L.map CEl.d).length := by rw [List.length_map]
              have htk : (L.map CEl.d).take L.length = L.map CEl.d := by rw [hml, List.take_length]
              have HLQ := Lib.hid (show Lj.map CEl.d = lowAt (L.map CEl.d) ⟨eq, eM, exs, eK⟩ (L.map CEl.d).length by rw [← hml]; exact HLD6.out)
              have HJL := Lib.hid (show Lj.length = L.length from hU6.conds.1.symm)
              have hI6 := T6.g.ints _ HMEM.out
              have hR6 := T6.g.rows _ HMEM.out
              simp only at hI6 hR6
              rw [htk]
              obtain ⟨fo, hfo⟩ : ∃ fo, ((L.map CEl.d).any fun a => a.xs == exs) = fo := ⟨_, rfl⟩
              rw [hfo]
              have HFO := Lib.hid hfo
              clear hml htk hfo
              cases fo
              · have c0 := X6.c0
                have c1 := X6.c1
                have c2 := X6.c2
                have c3 := X6.c3
                have HCL := Lib.hid (show Lj.length + 1 ≤ 100000 by have := HJL.out; omega)
                have HNX := Lib.hid (show Lj.map CEl.d ++ [⟨eq, eM, exs, eK⟩] = ((G.map CEl.d).take (i2 + 1)).foldl lowS [] by
                  rw [HLS.out, ← HLD.out, HLQ.out]
                  refine Eq.trans ?_ HAE.out.symm
                  rw [if_neg (by rw [HFO.out]; decide)])
                have b11 := below_alloc wr (.cells #[.int .i64 eq, .int .i64 eM, .slice eA en ec, .int .i64 eK] 56)
                go_wp2_with (at_builtin; refine wpList_append_cond3 rfl _ _ 34 rfl rfl rfl (hU6.step b11) wr.heap.size ⟨eq, eM, eA, en, ec, eK, exs⟩ rfl (heap_alloc_new wr (.cells #[.int .i64 eq, .int .i64 eM, .slice eA en ec, .int .i64 eK] 56)) (hI6.step b11) (hR6.step b11) HCL.out (hbt.trans (b11.mono hbt.size)).size ?_; intro g9 cap9 w9 L9 hgr9 hb9 hf9; have T9 := (T6.step b11).others (hU6.step b11) hgr9 r6 r7 r8; have a6 := r6.grown (T6.step b11).g (u' := .slice (some ⟨g9, 0, none⟩) (Lj.length + 1) cap9) rfl hf9; have a7 := r7.grown (T6.step b11).e (u' := .slice (some ⟨g9, 0, none⟩) (Lj.length + 1) cap9) rfl hf9; have a8 := r8.grown (T6.step b11).v (u' := .slice (some ⟨g9, 0, none⟩) (Lj.length + 1) cap9) rfl hf9; have hb12 := (hbt.trans (b11.mono hbt.size)).trans hb9; clear hgr9 hb9 hf9)
                go_roundw
                case rel => exact ⟨i2 + 1, Lj ++ [⟨eq, eM, eA, en, ec, eK, exs⟩], by omega, by go_num, L9, Lib.hid (by rw [List.map_append]; exact HNX.out), T9, a6, a7, a8, Lib.hid (fun x hx => by
                  rcases List.mem_append.1 hx with hx | hx
                  · exact HLn6.out x hx
                  · rw [List.mem_singleton.1 hx]), Lib.hid (by have h1 := HJL.out; have h2 := HLL.out; rw [List.length_append]; simp; omega), hb12⟩
                case measure => simp [intOf]; omega
              · have HNX := Lib.hid (show Lj.map CEl.d = ((G.map CEl.d).take (i2 + 1)).foldl lowS [] by
                  rw [HLS.out, ← HLD.out, HLQ.out]
                  refine Eq.trans ?_ HAE.out.symm
                  rw [if_pos HFO.out])
                go_wp2
                go_roundw
                case rel => exact ⟨i2 + 1, Lj, by omega, by go_num, hU6, HNX, T6, r6, r7, r8, HLn6, Lib.hid (by have h1 := HJL.out; have h2 := HLL.out; omega), hbt⟩
                case measure => simp [intOf]; omega
        · obtain rfl : i2 = G.length := by omega
          have htk : (G.map CEl.d).take G.length = G.map CEl.d := List.take_of_length_le (by rw [List.length_map]; exact Nat.le_refl _)
          have hLG := least_take HQM.out G.length
          have hLD : L.map CEl.d = (G.map CEl.d).foldl lowS [] := by have h9 := HLD.out; rw [htk] at h9; exact h9
          rw [htk, ← hLD, HGM.out] at hLG
          have HKO := Lib.hid (show ∀ d ∈ ds, KindOk d.q d.M ∧ d.xs.length = n from fun d hd => by
            rw [← HDS.out] at hd
            obtain ⟨e, he, rfl⟩ := List.mem_map.1 hd
            obtain ⟨h1, h2, _⟩ := HPRE.out e he
            exact ⟨h2, by rw [← h1]; exact (C0.ints e he).len⟩)
          have HNE := Lib.hid (show ∀ d ∈ outs, NormE n d from fun d hd => by
            have hd2 := hd
            rw [← HOUT.out] at hd2
            obtain ⟨z, hz, h2⟩ := List.mem_flatMap.1 hd2
            exact open_norm (HKO.out z hz).1 (HKO.out z hz).2 h2 (HND.out d hd))
          obtain ⟨LD, hLd⟩ : ∃ LD, L.map CEl.d = LD := ⟨_, rfl⟩
          rw [hLd] at hLG hLD
          have HLE := Lib.hid (show LowE n outs LD from ⟨LeastG.of hLG, hLG.one, fun d hd => HNE.out d (List.mem_filter.1 (hLG.mem d hd)).1⟩)
          have HLd := Lib.hid hLd
          have HVD := Lib.hid (fun hV : VoidP outs LD => show pd = ([], true, 0) from by
            rw [← HPD.out]
            have h9 := HND.out
            rw [← HOUT.out] at h9 hV
            have h8 := HLE.out.of
            rw [← HOUT.out] at h8
            exact piece_ref_void HKO.out h9 HV.out h8 hV)
          have HLL := Lib.hid (show L.length ≤ 1000 by have := HLl.out; have := HGL.out; omega)
          have HEL := Lib.hid (show E.length ≤ 1000 by have h1 := hT2.few; have := h1.2.1; have := HLN.out; omega)
          have HED := Lib.hid hT2.ed
          have HVDD := Lib.hid hT2.vd
          have HSUM := Lib.hid (show L.length + E.length + V.length ≤ 1000 by
            have h1 := kinds_sum outs
            rw [← hT2.gd, ← hT2.ed, ← hT2.vd] at h1
            simp only [List.length_map] at h1
            have h2 := least_len HQM.out
            rw [← hLD, ← hLd, List.length_map, List.length_map] at h2
            have := HLN.out
            omega)
          have HLN2 := Lib.hid (show LD.length = L.length by rw [← hLd, List.length_map])
          obtain ⟨A13, c13, rfl⟩ := hU.slice
          have hmk := make_bools L.length (by have := HLL.out; omega)
          have P0 := PSt.start hT2 hU r7 r8 HLn.out hbs.size L.length
          have hbw := hbs.alloc hbs.size (.cells ((falses L.length).map Value.bool).toArray 4)
          clear htk hLG hLD hLd hT2 hU r6 r7 r8 HLn HLl HLD hlt hi2
          go_wp2
          generalize wr.alloc (.cells ((falses L.length).map Value.bool).toArray 4) = w7 at *
          have HG7 := Lib.hid P0.b.lt
          generalize wr.heap.size = g7 at *
          clear hmk
          go_loopw [7, 120] (fun u k ws => ∃ (i : Nat) (E2 : List CEl) (gs : List Bool), i ≤ L.length ∧ k = .int .i64 i ∧ PSt n w.heap.size ws (.slice A13 L.length c13) u (.slice A8 V.length c8) L E2 V g7 gs ∧ Hid (Pairs LD (outs.filter fun d => d.q == 1) i (i + 1) gs (E2.map CEl.d)) ∧ Below w.heap.size w ws) (fun _ k _ => L.length - (intOf k).toNat)
          case atStart => exact ⟨0, E, falses L.length, Nat.zero_le _, rfl, P0, Lib.hid (by rw [HED.out, ← HLN2.out]; exact Pairs.zero _ _), hbw⟩
          case round =>
            obtain ⟨i, E2, gs, hi, rfl, hP, HPA, hbs2⟩ := hrel
            by_cases hlt : i < L.length
            · obtain ⟨b, off, e, hA13, hblt, hej, hmem, hcs, hin⟩ := hP.l.conds.2.at hlt
              subst hA13
              obtain ⟨x0, x1, x2, x3⟩ := hcs
              have HDI := Lib.hid (show LD[i]? = some e.d by rw [← HLd.out, List.getElem?_map, hej]; rfl)
              have hen : e.n = n := hP.ln e hmem
              have HMA := Lib.hid hmem
              obtain ⟨eq, eM, eA, en, ec, eK, exs⟩ := e
              simp only at x0 x1 x2 x3 hin hen
              subst hen
              have HEA := Lib.hid (HLE.out.norm _ (List.mem_of_getElem? HDI.out)).nd
              have HLA := Lib.hid (HLE.out.lead _ (List.mem_of_getElem? HDI.out))
              have hq1 : (i : Int) < (L.length : Nat) := by omega
              have hll : L.length ≤ 1000 := HLL.out
              have hq2 : IntKind.i64.wrap ((i : Int) + 1) = (i : Int) + 1 := IntWalk.i64_in _ (by omega)
              have b5 := below_alloc wr (.cells #[.int .i64 eq, .int .i64 eM, .slice eA en ec, .int .i64 eK] 56)
              have X1 := CBox.new wr eq eM eA en ec eK
              have P5 := hP.step b5
              have hb5 := hbs2.trans (b5.mono hbs2.size)
              have HGX := Lib.hid hP.b.lt
              have HNR0 := Lib.hid (show _ ≠ some wr.heap.size from fun e => absurd (hP.e.lt e) (Nat.lt_irrefl _))
              clear hej hmem hin hP b5
              go_wp2
              generalize wr.alloc (.cells #[.int .i64 eq, .int .i64 eM, .slice eA en ec, .int .i64 eK] 56) = w5 at *
              clear x0 x1 x2 x3 hq2
              have HBX := Lib.hid X1.lt
              generalize wr.heap.size = bx at *
              go_loopw [7, 21] (fun u k wt => ∃ (j : Nat) (E3 : List CEl) (gs2 : List Bool), i + 1 ≤ j ∧ j ≤ L.length ∧ k = .int .i64 j ∧ PSt en w.heap.size wt (.slice (some ⟨b, off, none⟩) L.length c13) u (.slice A8 V.length c8) L E3 V g7 gs2 ∧ Hid (Pairs LD (outs.filter fun d => d.q == 1) i j gs2 (E3.map CEl.d)) ∧ CBox wt bx eq eM eA en ec eK ∧ Hid (u.ownBlock ≠ some bx) ∧ Below w.heap.size w wt) (fun _ k _ => L.length - (intOf k).toNat)
              case atStart => exact ⟨i + 1, E2, gs, Nat.le_refl _, by omega, by first | rfl | simp, P5, HPA, X1, HNR0, hb5⟩
              case round =>
                obtain ⟨j, E3, gs2, hij, hj, rfl, P6, HPB, X6, HNR, hbt6⟩ := hrel
                by_cases hlt2 : j < L.length
                · obtain ⟨b2, off2, f, hA2, hblt2, hfj, hfm, hcs2, hin2⟩ := P6.l.conds.2.at hlt2
                  cases hA2
                  obtain ⟨y0, y1, y2, y3⟩ := hcs2
                  have HDJ := Lib.hid (show LD[j]? = some f.d by rw [← HLd.out, List.getElem?_map, hfj]; rfl)
                  have hfn : f.n = en := P6.ln f hfm
                  obtain ⟨fq, fM, fA, fn, fc, fK, fxs⟩ := f
                  simp only at y0 y1 y2 y3 hin2 hfn
                  have hfn2 : en = fn := hfn.symm
                  subst hfn2
                  have HEB := Lib.hid (HLE.out.norm _ (List.mem_of_getElem? HDJ.out)).nd
                  have hq2 : (j : Int) < (L.length : Nat) := by omega
                  have b6 := below_alloc wr (.cells #[.int .i64 fq, .int .i64 fM, .slice fA en fc, .int .i64 fK] 56)
                  replace P6 := P6.step b6
                  replace X6 := X6.step b6
                  replace hbt6 := hbt6.trans (b6.mono hbt6.size)
                  have Y6 := CBox.new wr fq fM fA en fc fK
                  have I6 := P6.l.ints _ HMA.out
                  have J6 := hin2.step b6
                  simp only at I6
                  obtain ⟨o, ho⟩ : ∃ o, sidesI exs fxs = o := ⟨_, rfl⟩
                  have HSI := Lib.hid (fun W (h1 : IntsAt W eA en exs) (h2 : IntsAt W fA en fxs) => (ref_sides eq eM eA en ec eK exs fq fM fA fc fK fxs W h1 h2 (fun y hy => by have h9 : -2305843009213693952 ≤ y ∧ y ≤ 2305843009213693952 := HEB.out.x y hy; omega)).mono fun x w' h => (show x = .returned (.int .i64 o) ∧ Below W.heap.size W w' from ⟨by rw [h.1, ho], by obtain ⟨q, os', rfl⟩ := h.2; exact below_grow q os'⟩))
                  have HO := Lib.hid ho
                  have c0 := X6.c0
                  have c1 := X6.c1
                  have c2 := X6.c2
                  have c3 := X6.c3
                  have d0 := Y6.c0
                  have d1 := Y6.c1
                  have d2 := Y6.c2
                  have d3 := Y6.c3
                  clear hfj hfm hin2 ho b6
                  by_cases ho1 : o = -1
                  · subst ho1
                    have HOP := Lib.hid (show OppAt LD i j ⟨eq, eM, exs, eK⟩ ⟨fq, fM, fxs, fK⟩ from ⟨by omega, HDI.out, HDJ.out, (sides_opp HLA.out).1 HO.out⟩)
                    have hw : IntKind.i64.wrap (eK + fK) = eK + fK := IntWalk.i64_in _ (by
                      have h1 : -2305843009213693952 ≤ eK ∧ eK ≤ 2305843009213693952 := HEA.out.k
                      have h2 : -2305843009213693952 ≤ fK ∧ fK ≤ 2305843009213693952 := HEB.out.k
                      omega)
                    rcases (show eK + fK < 0 ∨ eK + fK = 0 ∨ 0 < eK + fK by omega) with hsum | hsum | hsum
                    · have HR := Lib.hid (HVD.out (.inl (va_at HLE.out HOP.out hsum)))
                      go_wp2_with (first | (go_at_call 82; refine (HSI.out _ I6 J6).mono ?_; rintro x w7 ⟨rfl, hb⟩; have P7 := P6.step hb; have X7 := X6.step hb; have Y7 := Y6.step hb; have hbt7 := hbt6.trans (hb.mono hbt6.size); clear c0 c1 c2 c3 d0 d1 d2 d3; have c0 := X7.c0; have c1 := X7.c1; have c2 := X7.c2; have c3 := X7.c3; have d0 := Y7.c0; have d1 := Y7.c1; have d2 := Y7.c2; have d3 := Y7.c3; clear hb))
                      go_ret3
                      exact void_ret HR.out rfl hbt7
                    · obtain ⟨rX, hrX⟩ : ∃ rX, sgnL (signI exs) exs = rX := ⟨_, rfl⟩
                      obtain ⟨rK, hrK⟩ : ∃ rK, signI exs * eK = rK := ⟨_, rfl⟩
                      have HTI := Lib.hid (show Pairs LD (outs.filter fun d => d.q == 1) i (j + 1) ((gs2.set i true).set j true) (E3.map CEl.d ++ [⟨1, 0, rX, rK⟩]) from by rw [← hrX, ← hrK]; exact HPB.out.tight HLE.out HOP.out hsum)
                      have HMD := Lib.hid (fun W (I : IntsAt W eA en exs) => (show Calls Tryz.prog 81 #[condV 1 0 eA en ec eK] W fun e w' => NfRet W e w' (1, 0, rX, rK, 0) from by
                        have h9 := ref_made 1 0 eA en ec (by omega) eK exs (.inr (.inl rfl)) (by have h1 : -2305843009213693952 ≤ eK ∧ eK ≤ 2305843009213693952 := HEA.out.k; omega) (fun y hy => by have h9 : -2305843009213693952 ≤ y ∧ y ≤ 2305843009213693952 := HEA.out.x y hy; omega) W I
                        rw [nf_unit (n := en) (xs := exs) HEA.out.len (show gcdA 0 exs = 1 from HLE.out.gcd _ (List.mem_of_getElem? HDI.out)), hrX, hrK] at h9
                        exact h9))
                      have HXL := Lib.hid (show rX.length = en by rw [← hrX, sgn_len]; exact HEA.out.len)
                      have hs0 : (eK + fK == 0) = true := by rw [hsum]; rfl
                      have hs1 : ¬ (eK + fK < 0) := by omega
                      have HGL2 := Lib.hid (show gs2.length = L.length by rw [HPB.out.len]; exact HLN2.out)
                      have HGI := Lib.hid (show i < gs2.length by have := HGL2.out; omega)
                      have HGJ := Lib.hid (show j < (gs2.set i true).length by rw [List.length_set]; have := HGL2.out; omega)
                      have HNG := Lib.hid (show bx ≠ g7 by have := HGX.out; omega)
                      have HCE := Lib.hid (show E3.length + 1 ≤ 100000 by
                        have h1 := HPB.out.few.1
                        rw [List.length_map, ← HED.out, List.length_map] at h1
                        have := HEL.out
                        omega)
                      clear hrX hrK
                      go_wp2_with (first | (go_at_call 82; refine (HSI.out _ I6 J6).mono ?_; rintro x w7 ⟨rfl, hb⟩; have P7 := P6.step hb; have X7 := X6.step hb; have Y7 := Y6.step hb; have hbt7 := hbt6.trans (hb.mono hbt6.size); clear c0 c1 c2 c3 d0 d1 d2 d3; have c0 := X7.c0; have c1 := X7.c1; have c2 := X7.c2; have c3 := X7.c3; have d0 := Y7.c0; have d1 := Y7.c1; have d2 := Y7.c2; have d3 := Y7.c3; clear hb; have t0 := P7.b.cell HGI.out; have f0 := P7.b.free i; have P8 := P7.set i true; have t1 := P8.b.cell (j := j) HGJ.out; have f1 := P8.b.free j; have P9 := P8.set j true; have X9 := (X7.step' (a := ⟨g7, i, none⟩) HNG.out (.bool true)).step' (a := ⟨g7, j, none⟩) HNG.out (.bool true); have e0 := X9.c0; have e1 := X9.c1; have e2 := X9.c2; have e3 := X9.c3; have hbt9 := (hbt7.setCell (p := ⟨g7, i, none⟩) P7.hg (.bool true)).setCell (p := ⟨g7, j, none⟩) P7.hg (.bool true); have I9 := P9.l.ints _ HMA.out) | (go_at_call 81; refine (HMD.out _ I9).mono ?_; rintro x w10 ⟨A10, n10, c10, rfl, J10, hb, hfr⟩; have HN10 := Lib.hid (show n10 = en from J10.len.symm.trans HXL.out); have b9 := below_alloc w10 (.cells #[.int .i64 1, .int .i64 0, .slice A10 n10 c10, .int .i64 rK] 56); have hx := below_step hb b9; have P10 := P9.step hx; have X10 := X9.step hx; have hbt10 := hbt9.trans (hx.mono hbt9.size); have R10 := (FreshRow.ok hfr hbt9.size).step b9; have J11 := J10.step b9; have Z10 := CBox.new w10 1 0 A10 n10 c10 rK; have z0 := Z10.c0; have z1 := Z10.c1; have z2 := Z10.c2; have z3 := Z10.c3; have b10 := below_alloc (w10.alloc (.cells #[.int .i64 1, .int .i64 0, .slice A10 n10 c10, .int .i64 rK] 56)) (.cells #[.int .i64 1, .int .i64 0, .slice A10 n10 c10, .int .i64 rK] 56); have HROW := Lib.hid (show ((w10.alloc (.cells #[.int .i64 1, .int .i64 0, .slice A10 n10 c10, .int .i64 rK] 56)).alloc (.cells #[.int .i64 1, .int .i64 0, .slice A10 n10 c10, .int .i64 rK] 56)).heap[w10.heap.size + 1]? = some (.cells (CEl.cells ⟨1, 0, A10, n10, c10, rK, rX⟩).toArray 56 (0, 0)) from (by have h9 := heap_alloc_new (w10.alloc (.cells #[.int .i64 1, .int .i64 0, .slice A10 n10 c10, .int .i64 rK] 56)) (.cells #[.int .i64 1, .int .i64 0, .slice A10 n10 c10, .int .i64 rK] 56); rw [World.size_alloc] at h9; exact h9)); clear hb hx hfr b9) | (at_builtin; refine wpList_append_cond3 rfl _ _ 34 rfl rfl rfl (P10.e.step b10) (w10.heap.size + 1) ⟨1, 0, A10, n10, c10, rK, rX⟩ rfl HROW.out (J11.step b10) (R10.step b10) HCE.out (hbt10.trans (b10.mono hbt10.size)).size ?_; intro g12 cap12 w12 L12 hgr12 hb12 hf12; have P12 := PSt.put (x := ⟨1, 0, A10, n10, c10, rK, rX⟩) (P10.step b10) HN10.out L12 hgr12 hf12; have X12 : CBox w12 bx eq eM eA en ec eK := (hgr12.block bx (X10.step b10).lt (fun e => HNR.out e.symm)).trans (X10.step b10); have HNR12 := Lib.hid (show (Value.slice (some ⟨g12, 0, none⟩) (E3.length + 1) cap12).ownBlock ≠ some bx from own_new hf12 HNR.out (X10.step b10).lt); have hbt12 := (hbt10.trans (b10.mono hbt10.size)).trans hb12; clear L12 hgr12 hb12 hf12))
                      go_roundw
                      case rel => exact ⟨j + 1, E3 ++ [⟨1, 0, A10, n10, c10, rK, rX⟩], (gs2.set i true).set j true, by omega, by omega, by go_num, P12, Lib.hid (by rw [List.map_append]; exact HTI.out), X12, HNR12, hbt12⟩
                      case measure => simp [intOf]; omega
                    · have hs0 : (eK + fK == 0) = false := by simp; omega
                      have hs1 : ¬ (eK + fK < 0) := by omega
                      have HSK := Lib.hid (show Pairs LD (outs.filter fun d => d.q == 1) i (j + 1) gs2 (E3.map CEl.d) from HPB.out.skip (fun a b h => by
                        have h1 := h.2.1
                        have h2 := h.2.2.1
                        rw [HDI.out] at h1
                        rw [HDJ.out] at h2
                        cases h1; cases h2
                        exact hsum))
                      go_wp2_with (first | (go_at_call 82; refine (HSI.out _ I6 J6).mono ?_; rintro x w7 ⟨rfl, hb⟩; have P7 := P6.step hb; have X7 := X6.step hb; have Y7 := Y6.step hb; have hbt7 := hbt6.trans (hb.mono hbt6.size); clear c0 c1 c2 c3 d0 d1 d2 d3; have c0 := X7.c0; have c1 := X7.c1; have c2 := X7.c2; have c3 := X7.c3; have d0 := Y7.c0; have d1 := Y7.c1; have d2 := Y7.c2; have d3 := Y7.c3; clear hb))
                      go_roundw
                      case rel => exact ⟨j + 1, E3, gs2, by omega, by omega, by go_num, P7, HSK, X7, HNR, hbt7⟩
                      case measure => simp [intOf]; omega
                  · have HSK := Lib.hid (show Pairs LD (outs.filter fun d => d.q == 1) i (j + 1) gs2 (E3.map CEl.d) from HPB.out.skip (fun a b h => by
                      have h1 := h.2.1
                      have h2 := h.2.2.1
                      rw [HDI.out] at h1
                      rw [HDJ.out] at h2
                      cases h1; cases h2
                      exact absurd (HO.out.symm.trans ((sides_opp HLA.out).2 h.2.2.2)) ho1))
                    go_wp2_with (first | (go_at_call 82; refine (HSI.out _ I6 J6).mono ?_; rintro x w7 ⟨rfl, hb⟩; have P7 := P6.step hb; have X7 := X6.step hb; have Y7 := Y6.step hb; have hbt7 := hbt6.trans (hb.mono hbt6.size); clear c0 c1 c2 c3 d0 d1 d2 d3; have c0 := X7.c0; have c1 := X7.c1; have c2 := X7.c2; have c3 := X7.c3; have d0 := Y7.c0; have d1 := Y7.c1; have d2 := Y7.c2; have d3 := Y7.c3; clear hb))
                    go_roundw
                    case rel => exact ⟨j + 1, E3, gs2, by omega, by omega, by go_num, P7, HSK, X7, HNR, hbt7⟩
                    case measure => simp [intOf]; omega
                · obtain rfl : j = L.length := by omega
                  have HNX := Lib.hid (show Pairs LD (outs.filter fun d => d.q == 1) (i + 1) (i + 1 + 1) gs2 (E3.map CEl.d) from by
                    have h9 := HPB.out
                    rw [← HLN2.out] at h9
                    exact h9.next)
                  go_wp2
                  go_roundw
                  case rel => exact ⟨i + 1, E3, gs2, by omega, by go_num, P6, HNX, hbt6⟩
                  case measure => simp [intOf]; omega
            · obtain rfl : i = L.length := by omega
              have HG0 := Lib.hid (show Gone0 outs LD gs (E2.map CEl.d) from by
                have h9 := HPA.out
                rw [← HLN2.out] at h9
                exact h9.done HLE.out)
              have HE2 := Lib.hid (show E2.length ≤ E.length + L.length by
                have h9 := HPA.out
                rw [← HLN2.out] at h9
                have h1 := h9.size
                rw [List.length_map, ← HED.out, List.length_map, HLN2.out] at h1
                exact h1)
              have he2 : E2.length ≤ 1000 := by have := HE2.out; have := HSUM.out; omega
              have HEQ := Lib.hid (show ∀ d ∈ E2.map CEl.d, NormE n d ∧ d.q = 1 from fun d hd => eqp_norm HNE.out HLE.out ((HG0.out.eqs d).1 hd))
              obtain ⟨A17, c17, rfl⟩ := hP.e.slice
              have hll : L.length ≤ 1000 := HLL.out
              clear hlt hi HPA
              go_wp2
              go_loopw [177] (fun k ws => ∃ (i : Nat) (gs2 : List Bool), i ≤ E2.length ∧ k = .int .i64 i ∧ PSt n w.heap.size ws (.slice A13 L.length c13) (.slice A17 E2.length c17) (.slice A8 V.length c8) L E2 V g7 gs2 ∧ Hid (Meets LD (E2.map CEl.d) i 0 gs2) ∧ Hid (OneK (E2.map CEl.d) i) ∧ Below w.heap.size w ws) (fun k _ => E2.length - (intOf k).toNat)
              case atStart => exact ⟨0, gs, Nat.zero_le _, rfl, hP, Lib.hid (Meets.zero HG0.out), Lib.hid (OneK.zero _), hbs2⟩
              case round =>
                obtain ⟨i, gs2, hi, rfl, hP2, HME, HOK, hbs3⟩ := hrel
                by_cases hlt : i < E2.length
                · obtain ⟨b, off, e, hA17, hblt, hej, hmem, hcs, hin⟩ := hP2.e.conds.2.at hlt
                  have hcap : (E2.length : Int) ≤ c17 := by
                    rcases cl_shape hP2.e with ⟨_, _, h⟩ | ⟨_, _, _, h⟩
                    · rw [h] at hlt; exact absurd hlt (Nat.not_lt_zero _)
                    · omega
                  subst hA17
                  obtain ⟨x0, x1, x2, x3⟩ := hcs
                  have HDI := Lib.hid (show (E2.map CEl.d)[i]? = some e.d by rw [List.getElem?_map, hej]; rfl)
                  have hen : e.n = n := hP2.en e hmem
                  have HMA := Lib.hid hmem
                  obtain ⟨eq, eM, eA, en, ec, eK, exs⟩ := e
                  simp only at x0 x1 x2 x3 hin hen
                  subst hen
                  have HEA := Lib.hid (HEQ.out _ (List.mem_of_getElem? HDI.out))
                  have hq1 : (i : Int) < (E2.length : Nat) := by omega
                  have hq3 : (i : Int) ≤ c17 := by omega
                  have b5 := below_alloc wr (.cells #[.int .i64 eq, .int .i64 eM, .slice eA en ec, .int .i64 eK] 56)
                  have X1 := CBox.new wr eq eM eA en ec eK
                  have P5 := hP2.step b5
                  have HGX := Lib.hid hP2.b.lt
                  have hb5 := hbs3.trans (b5.mono hbs3.size)
                  clear hej hmem hin hP2 b5
                  go_wp2
                  generalize wr.alloc (.cells #[.int .i64 eq, .int .i64 eM, .slice eA en ec, .int .i64 eK] 56) = w5 at *
                  clear x0 x1 x2 x3
                  have HBX := Lib.hid X1.lt
                  generalize wr.heap.size = bx at *
                  go_loopw [186] (fun k wt => ∃ j : Nat, j ≤ i ∧ k = .int .i64 j ∧ PSt en w.heap.size wt (.slice A13 L.length c13) (.slice (some ⟨b, off, none⟩) E2.length c17) (.slice A8 V.length c8) L E2 V g7 gs2 ∧ Hid (OneAt (E2.map CEl.d) i j ⟨eq, eM, exs, eK⟩) ∧ CBox wt bx eq eM eA en ec eK ∧ Below w.heap.size w wt) (fun k _ => i - (intOf k).toNat)
                  case atStart => exact ⟨0, Nat.zero_le _, by first | rfl | simp, P5, Lib.hid (OneAt.zero _ _ _), X1, hb5⟩
                  case round =>
                    clear P5 X1 hb5
                    obtain ⟨j, hj, rfl, P6, HOA, X6, hbt6⟩ := hrel
                    by_cases hlt2 : j < i
                    · obtain ⟨b2, off2, f, hA2, hblt2, hfj, hfm, hcs2, hin2⟩ := P6.e.conds.2.at (j := j) (by omega)
                      cases hA2
                      obtain ⟨y0, y1, y2, y3⟩ := hcs2
                      have HDJ := Lib.hid (show (E2.map CEl.d)[j]? = some f.d by rw [List.getElem?_map, hfj]; rfl)
                      have hfn : f.n = en := P6.en f hfm
                      obtain ⟨fq, fM, fA, fn, fc, fK, fxs⟩ := f
                      simp only at y0 y1 y2 y3 hin2 hfn
                      have hfn2 : en = fn := hfn.symm
                      subst hfn2
                      have HEB := Lib.hid (HEQ.out _ (List.mem_of_getElem? HDJ.out)).1.nd
                      have hq2 : (j : Int) < (i : Nat) := by omega
                      have b6 := below_alloc wr (.cells #[.int .i64 fq, .int .i64 fM, .slice fA en fc, .int .i64 fK] 56)
                      replace P6 := P6.step b6
                      replace X6 := X6.step b6
                      replace hbt6 := hbt6.trans (b6.mono hbt6.size)
                      have Y6 := CBox.new wr fq fM fA en fc fK
                      have I6 := P6.e.ints _ HMA.out
                      have J6 := hin2.step b6
                      simp only at I6
                      obtain ⟨o, ho⟩ : ∃ o, sidesI exs fxs = o := ⟨_, rfl⟩
                      have HSI := Lib.hid (fun W (h1 : IntsAt W eA en exs) (h2 : IntsAt W fA en fxs) => (ref_sides eq eM eA en ec eK exs fq fM fA fc fK fxs W h1 h2 (fun y hy => by have h9 : -2305843009213693952 ≤ y ∧ y ≤ 2305843009213693952 := HEB.out.x y hy; omega)).mono fun x w' h => (show x = .returned (.int .i64 o) ∧ Below W.heap.size W w' from ⟨by rw [h.1, ho], by obtain ⟨q, os', rfl⟩ := h.2; exact below_grow q os'⟩))
                      have HO := Lib.hid ho
                      have c0 := X6.c0
                      have c1 := X6.c1
                      have c2 := X6.c2
                      have c3 := X6.c3
                      have d0 := Y6.c0
                      have d1 := Y6.c1
                      have d2 := Y6.c2
                      have d3 := Y6.c3
                      clear hfj hfm hin2 ho b6
                      by_cases ho1 : o = 1
                      · subst ho1
                        have HXE := Lib.hid (show exs = fxs by
                          have h9 := HO.out
                          unfold sidesI at h9
                          split at h9
                          · assumption
                          · split at h9 <;> cases h9)
                        by_cases hk : eK = fK
                        · have hk2 : (eK == fK) = true := by simpa using hk
                          have HOB := Lib.hid (show OneAt (E2.map CEl.d) i (j + 1) ⟨eq, eM, exs, eK⟩ from HOA.out.step HDJ.out (fun _ => hk))
                          clear hk
                          go_wp2_with (first | (go_at_call 82; refine (HSI.out _ I6 J6).mono ?_; rintro x w7 ⟨rfl, hb⟩; have P7 := P6.step hb; have X7 := X6.step hb; have Y7 := Y6.step hb; have hbt7 := hbt6.trans (hb.mono hbt6.size); clear c0 c1 c2 c3 d0 d1 d2 d3; have c0 := X7.c0; have c1 := X7.c1; have c2 := X7.c2; have c3 := X7.c3; have d0 := Y7.c0; have d1 := Y7.c1; have d2 := Y7.c2; have d3 := Y7.c3; clear hb))
                          go_roundw
                          case rel => exact ⟨j + 1, by omega, by go_num, P7, HOB, X7, hbt7⟩
                          case measure => simp [intOf]; omega
                        · have hk2 : (eK == fK) = false := by simpa using hk
                          have HR := Lib.hid (HVD.out (.inr (.inl (vb_at HG0.out HDI.out HDJ.out HXE.out hk))))
                          clear hk
                          go_wp2_with (first | (go_at_call 82; refine (HSI.out _ I6 J6).mono ?_; rintro x w7 ⟨rfl, hb⟩; have P7 := P6.step hb; have X7 := X6.step hb; have Y7 := Y6.step hb; have hbt7 := hbt6.trans (hb.mono hbt6.size); clear c0 c1 c2 c3 d0 d1 d2 d3; have c0 := X7.c0; have c1 := X7.c1; have c2 := X7.c2; have c3 := X7.c3; have d0 := Y7.c0; have d1 := Y7.c1; have d2 := Y7.c2; have d3 := Y7.c3; clear hb))
                          go_ret3
                          exact void_ret HR.out rfl hbt7
                      · have HOB := Lib.hid (show OneAt (E2.map CEl.d) i (j + 1) ⟨eq, eM, exs, eK⟩ from HOA.out.step HDJ.out (fun hx => absurd (by
                          have hx2 : exs = fxs := hx
                          rw [← HO.out]; unfold sidesI; rw [if_pos hx2]) ho1))
                        go_wp2_with (first | (go_at_call 82; refine (HSI.out _ I6 J6).mono ?_; rintro x w7 ⟨rfl, hb⟩; have P7 := P6.step hb; have X7 := X6.step hb; have Y7 := Y6.step hb; have hbt7 := hbt6.trans (hb.mono hbt6.size); clear c0 c1 c2 c3 d0 d1 d2 d3; have c0 := X7.c0; have c1 := X7.c1; have c2 := X7.c2; have c3 := X7.c3; have d0 := Y7.c0; have d1 := Y7.c1; have d2 := Y7.c2; have d3 := Y7.c3; clear hb))
                        go_roundw
                        case rel => exact ⟨j + 1, by omega, by go_num, P7, HOB, X7, hbt7⟩
                        case measure => simp [intOf]; omega
                    · obtain rfl : j = i := by omega
                      have HOK2 := Lib.hid (show OneK (E2.map CEl.d) (j + 1) from HOK.out.step HDI.out HOA.out)
                      go_wp2
                      go_loopw [206] (fun k wt => ∃ (kk : Nat) (gs3 : List Bool), kk ≤ L.length ∧ k = .int .i64 kk ∧ PSt en w.heap.size wt (.slice A13 L.length c13) (.slice (some ⟨b, off, none⟩) E2.length c17) (.slice A8 V.length c8) L E2 V g7 gs3 ∧ Hid (Meets LD (E2.map CEl.d) j kk gs3) ∧ CBox wt bx eq eM eA en ec eK ∧ Below w.heap.size w wt) (fun k _ => L.length - (intOf k).toNat)
                      case atStart => exact ⟨0, gs2, Nat.zero_le _, by first | rfl | simp, P6, HME, X6, hbt6⟩
                      case round =>
                        clear P6 X6 hbt6
                        obtain ⟨kk, gs3, hkk, rfl, P8, HMM, X8, hbt8⟩ := hrel
                        by_cases hlt3 : kk < L.length
                        · obtain ⟨b2, off2, f, hA2, hblt2, hfj, hfm, hcs2, hin2⟩ := P8.l.conds.2.at hlt3
                          subst hA2
                          obtain ⟨y0, y1, y2, y3⟩ := hcs2
                          have HDJ := Lib.hid (show LD[kk]? = some f.d by rw [← HLd.out, List.getElem?_map, hfj]; rfl)
                          have hfn : f.n = en := P8.ln f hfm
                          have HMB := Lib.hid hfm
                          obtain ⟨fq, fM, fA, fn, fc, fK, fxs⟩ := f
                          simp only at y0 y1 y2 y3 hin2 hfn
                          have hfn2 : en = fn := hfn.symm
                          subst hfn2
                          have HEB := Lib.hid (HLE.out.norm _ (List.mem_of_getElem? HDJ.out)).nd
                          have HSM := Lib.hid (sides_meet (a := ⟨eq, eM, exs, eK⟩) (b := ⟨fq, fM, fxs, fK⟩) (HEA.out.1.eq HEA.out.2) (HLE.out.lead _ (List.mem_of_getElem? HDJ.out)))
                          have hq2 : (kk : Int) < (L.length : Nat) := by omega
                          have HGL3 := Lib.hid (show gs3.length = L.length by rw [HMM.out.len]; exact HLN2.out)
                          have HGK := Lib.hid (show kk < gs3.length by have := HGL3.out; omega)
                          have b6 := below_alloc wr (.cells #[.int .i64 fq, .int .i64 fM, .slice fA en fc, .int .i64 fK] 56)
                          have P6 := P8.step b6
                          have X6 := X8.step b6
                          have hbt6 := hbt8.trans (b6.mono hbt8.size)
                          have Y6 := CBox.new wr fq fM fA en fc fK
                          have I6 := P6.e.ints _ HMA.out
                          have J6 := hin2.step b6
                          simp only at I6
                          obtain ⟨o, ho⟩ : ∃ o, sidesI exs fxs = o := ⟨_, rfl⟩
                          have HSI := Lib.hid (fun W (h1 : IntsAt W eA en exs) (h2 : IntsAt W fA en fxs) => (ref_sides eq eM eA en ec eK exs fq fM fA fc fK fxs W h1 h2 (fun y hy => by have h9 : -2305843009213693952 ≤ y ∧ y ≤ 2305843009213693952 := HEB.out.x y hy; omega)).mono fun x w' h => (show x = .returned (.int .i64 o) ∧ Below W.heap.size W w' from ⟨by rw [h.1, ho], by obtain ⟨q, os', rfl⟩ := h.2; exact below_grow q os'⟩))
                          have HO := Lib.hid ho
                          have c0 := X6.c0
                          have c1 := X6.c1
                          have c2 := X6.c2
                          have c3 := X6.c3
                          have d0 := Y6.c0
                          have d1 := Y6.c1
                          have d2 := Y6.c2
                          have d3 := Y6.c3
                          have t0 := P6.b.cell HGK.out
                          obtain ⟨gv, hgv⟩ : ∃ gv, gs3[kk]?.getD false = gv := ⟨_, rfl⟩
                          rw [hgv] at t0
                          have HGV := Lib.hid (show gs3[kk]? = some gv by
                            rw [List.getElem?_eq_getElem HGK.out] at hgv ⊢
                            exact congrArg some hgv)
                          clear hfj hfm hin2 ho b6 hgv P8 X8 hbt8
                          cases gv
                          · by_cases ho0 : o = 0
                            · subst ho0
                              have HMS := Lib.hid (show Meets LD (E2.map CEl.d) j (kk + 1) gs3 from HMM.out.skip HDJ.out HDI.out (HSM.out.1.1 HO.out))
                              go_wp2_with (first | (go_at_call 82; refine (HSI.out _ I6 J6).mono ?_; rintro x w7 ⟨rfl, hb⟩; have P7 := P6.step hb; have X7 := X6.step hb; have Y7 := Y6.step hb; have hbt7 := hbt6.trans (hb.mono hbt6.size); clear c0 c1 c2 c3 d0 d1 d2 d3; have c0 := X7.c0; have c1 := X7.c1; have c2 := X7.c2; have c3 := X7.c3; have d0 := Y7.c0; have d1 := Y7.c1; have d2 := Y7.c2; have d3 := Y7.c3; clear hb))
                              go_roundw
                              case rel => exact ⟨kk + 1, gs3, by omega, by go_num, P7, HMS, X7, hbt7⟩
                              case measure => simp [intOf]; omega
                            · have hMt : Mt ⟨fq, fM, fxs, fK⟩ ⟨eq, eM, exs, eK⟩ := Classical.byContradiction fun h => ho0 (HO.out.symm.trans (HSM.out.1.2 h))
                              have hos : o = signI fxs := HO.out.symm.trans (HSM.out.2 hMt)
                              have h1 : -2305843009213693952 ≤ eK ∧ eK ≤ 2305843009213693952 := HEA.out.1.nd.k
                              have h2 : -2305843009213693952 ≤ fK ∧ fK ≤ 2305843009213693952 := HEB.out.k
                              have hpb : -2305843009213693952 ≤ o * eK ∧ o * eK ≤ 2305843009213693952 := by
                                rw [hos]; unfold signI
                                split <;> omega
                              obtain ⟨p, hp⟩ : ∃ p, o * eK = p := ⟨_, rfl⟩
                              rw [hp] at hpb
                              have hw1 : IntKind.i64.wrap (o * eK) = p := by rw [hp]; exact IntWalk.i64_in _ (by omega)
                              have hw2 : IntKind.i64.wrap (fK - p) = fK - p := IntWalk.i64_in _ (by omega)
                              have HP := Lib.hid (show signI fxs * eK = p by rw [← hos]; exact hp)
                              have HMt := Lib.hid hMt
                              clear h1 h2 hpb hp hos hMt
                              by_cases hneg : fK - p < 0
                              · have HR := Lib.hid (HVD.out (.inr (.inr (vc_at HG0.out HMM.out HDJ.out HDI.out HGV.out HMt.out (by show fK - signI fxs * eK < 0; rw [HP.out]; exact hneg)))))
                                go_wp2_with (first | (go_at_call 82; refine (HSI.out _ I6 J6).mono ?_; rintro x w7 ⟨rfl, hb⟩; have P7 := P6.step hb; have X7 := X6.step hb; have Y7 := Y6.step hb; have hbt7 := hbt6.trans (hb.mono hbt6.size); clear c0 c1 c2 c3 d0 d1 d2 d3; have c0 := X7.c0; have c1 := X7.c1; have c2 := X7.c2; have c3 := X7.c3; have d0 := Y7.c0; have d1 := Y7.c1; have d2 := Y7.c2; have d3 := Y7.c3; clear hb))
                                generalize wr.heap.size = bz at *
                                have I7 := P7.e.ints _ HMA.out
                                have J7 := P7.l.ints _ HMB.out
                                simp only at I7 J7
                                have HSD := Lib.hid (show (fun W : World => W.cell? ⟨bx, 0, none⟩ = some (.int .i64 eq) ∧ W.cell? ⟨bx, 1, none⟩ = some (.int .i64 eM) ∧ W.cell? ⟨bx, 2, none⟩ = some (.slice eA en ec) ∧ W.cell? ⟨bx, 3, none⟩ = some (.int .i64 eK) ∧ W.cell? ⟨bz, 0, none⟩ = some (.int .i64 fq) ∧ W.cell? ⟨bz, 1, none⟩ = some (.int .i64 fM) ∧ W.cell? ⟨bz, 2, none⟩ = some (.slice fA en fc) ∧ W.cell? ⟨bz, 3, none⟩ = some (.int .i64 fK)) w7.drew from ⟨by simpa using c0, by simpa using c1, by simpa using c2, by simpa using c3, by simpa using d0, by simpa using d1, by simpa using d2, by simpa using d3⟩)
                                clear P6 X6 Y6 hbt6 I6 J6 t0 y0 y1 y2 y3
                                have t0 := P7.b.cell HGK.out
                                go_region_held3 (fun W => W.cell? ⟨bx, 0, none⟩ = some (.int .i64 eq) ∧ W.cell? ⟨bx, 1, none⟩ = some (.int .i64 eM) ∧ W.cell? ⟨bx, 2, none⟩ = some (.slice eA en ec) ∧ W.cell? ⟨bx, 3, none⟩ = some (.int .i64 eK) ∧ W.cell? ⟨bz, 0, none⟩ = some (.int .i64 fq) ∧ W.cell? ⟨bz, 1, none⟩ = some (.int .i64 fM) ∧ W.cell? ⟨bz, 2, none⟩ = some (.slice fA en fc) ∧ W.cell? ⟨bz, 3, none⟩ = some (.int .i64 fK)) (first | with_reducible exact ⟨c0, c1, c2, c3, d0, d1, d2, d3⟩ | with_reducible exact HSD.out | with_reducible exact ⟨z0, z1, z2, z3, u0, u1, u2, u3⟩ | go_keep)
                                  (first | (go_at_call 82; refine (HSI.out _ (I7.step (Below.refl _ _).drew) (J7.step (Below.refl _ _).drew)).mono ?_; rintro x w9 ⟨rfl, hb⟩; have hx := below_step (Below.refl _ w7).drew hb; have P9 := P7.step hx; have X9 := X7.step hx; have Y9 := Y7.step hx; have z0 := X9.c0; have z1 := X9.c1; have z2 := X9.c2; have z3 := X9.c3; have u0 := Y9.c0; have u1 := Y9.c1; have u2 := Y9.c2; have u3 := Y9.c3; have hbt9 := Lib.hid (hbt7.trans (hx.mono hbt7.size)); have t9 := P9.b.cell HGK.out; have f9 := P9.b.free kk; clear hb c0 c1 c2 c3 d0 d1 d2 d3 t0))
                                rename_i hHeld
                                clear hHeld
                                go_wp2
                                go_ret3
                                exact void_ret HR.out rfl hbt9.out
                              · have HMS := Lib.hid (show Meets LD (E2.map CEl.d) j (kk + 1) (gs3.set kk true) from HMM.out.take HDJ.out HDI.out HMt.out (by show 0 ≤ fK - signI fxs * eK; rw [HP.out]; omega))
                                go_wp2_with (first | (go_at_call 82; refine (HSI.out _ I6 J6).mono ?_; rintro x w7 ⟨rfl, hb⟩; have P7 := P6.step hb; have X7 := X6.step hb; have Y7 := Y6.step hb; have hbt7 := hbt6.trans (hb.mono hbt6.size); clear c0 c1 c2 c3 d0 d1 d2 d3; have c0 := X7.c0; have c1 := X7.c1; have c2 := X7.c2; have c3 := X7.c3; have d0 := Y7.c0; have d1 := Y7.c1; have d2 := Y7.c2; have d3 := Y7.c3; clear hb))
                                generalize wr.heap.size = bz at *
                                have I7 := P7.e.ints _ HMA.out
                                have J7 := P7.l.ints _ HMB.out
                                simp only at I7 J7
                                have HSD := Lib.hid (show (fun W : World => W.cell? ⟨bx, 0, none⟩ = some (.int .i64 eq) ∧ W.cell? ⟨bx, 1, none⟩ = some (.int .i64 eM) ∧ W.cell? ⟨bx, 2, none⟩ = some (.slice eA en ec) ∧ W.cell? ⟨bx, 3, none⟩ = some (.int .i64 eK) ∧ W.cell? ⟨bz, 0, none⟩ = some (.int .i64 fq) ∧ W.cell? ⟨bz, 1, none⟩ = some (.int .i64 fM) ∧ W.cell? ⟨bz, 2, none⟩ = some (.slice fA en fc) ∧ W.cell? ⟨bz, 3, none⟩ = some (.int .i64 fK)) w7.drew from ⟨by simpa using c0, by simpa using c1, by simpa using c2, by simpa using c3, by simpa using d0, by simpa using d1, by simpa using d2, by simpa using d3⟩)
                                clear P6 X6 Y6 hbt6 I6 J6 t0 y0 y1 y2 y3
                                have t0 := P7.b.cell HGK.out
                                go_region_held3 (fun W => W.cell? ⟨bx, 0, none⟩ = some (.int .i64 eq) ∧ W.cell? ⟨bx, 1, none⟩ = some (.int .i64 eM) ∧ W.cell? ⟨bx, 2, none⟩ = some (.slice eA en ec) ∧ W.cell? ⟨bx, 3, none⟩ = some (.int .i64 eK) ∧ W.cell? ⟨bz, 0, none⟩ = some (.int .i64 fq) ∧ W.cell? ⟨bz, 1, none⟩ = some (.int .i64 fM) ∧ W.cell? ⟨bz, 2, none⟩ = some (.slice fA en fc) ∧ W.cell? ⟨bz, 3, none⟩ = some (.int .i64 fK)) (first | with_reducible exact ⟨c0, c1, c2, c3, d0, d1, d2, d3⟩ | with_reducible exact HSD.out | with_reducible exact ⟨z0, z1, z2, z3, u0, u1, u2, u3⟩ | go_keep)
                                  (first | (go_at_call 82; refine (HSI.out _ (I7.step (Below.refl _ _).drew) (J7.step (Below.refl _ _).drew)).mono ?_; rintro x w9 ⟨rfl, hb⟩; have hx := below_step (Below.refl _ w7).drew hb; have P9 := P7.step hx; have X9 := X7.step hx; have Y9 := Y7.step hx; have z0 := X9.c0; have z1 := X9.c1; have z2 := X9.c2; have z3 := X9.c3; have u0 := Y9.c0; have u1 := Y9.c1; have u2 := Y9.c2; have u3 := Y9.c3; have hbt9 := Lib.hid (hbt7.trans (hx.mono hbt7.size)); have t9 := P9.b.cell HGK.out; have f9 := P9.b.free kk; clear hb c0 c1 c2 c3 d0 d1 d2 d3 t0))
                                rename_i hHeld
                                clear hHeld
                                go_wp2
                                go_roundw
                                case rel => exact ⟨kk + 1, gs3.set kk true, by omega, by go_num, P9.set kk true, HMS, X9.step' (a := ⟨g7, kk, none⟩) (show bx ≠ g7 by have := HGX.out; omega) (.bool true), hbt9.out.setCell (p := ⟨g7, kk, none⟩) P9.hg (.bool true)⟩
                                case measure => simp [intOf]; omega
                          · have HMS := Lib.hid (show Meets LD (E2.map CEl.d) j (kk + 1) gs3 from HMM.out.there HOK2.out HDJ.out HDI.out HGV.out)
                            go_wp2
                            go_roundw
                            case rel => exact ⟨kk + 1, gs3, by omega, by go_num, P6, HMS, X6, hbt6⟩
                            case measure => simp [intOf]; omega
                        · obtain rfl : kk = L.length := by omega
                          have HMS := Lib.hid (show Meets LD (E2.map CEl.d) (j + 1) 0 gs3 from by
                            have h9 := HMM.out
                            rw [← HLN2.out] at h9
                            exact h9.next)
                          go_wp2
                          go_roundw
                          case rel => exact ⟨j + 1, gs3, by omega, by go_num, P8, HMS, HOK2, hbt8⟩
                          case measure => simp [intOf]; omega
                · obtain rfl : i = E2.length := by omega
                  have HG1 := Lib.hid (show Gone1 outs LD gs2 from by
                    have h9 := HME.out
                    have h8 := HOK.out
                    have hml : E2.length = (E2.map CEl.d).length := by rw [List.length_map]
                    rw [hml] at h9 h8
                    exact h9.done HG0.out h8)
                  have HGL4 := Lib.hid (show gs2.length = L.length by rw [HG1.out.len]; exact HLN2.out)
                  clear hlt hi HME HOK
                  go_wp2
                  go_loopw [31, 241] (fun u k ws => ∃ (kk : Nat) (O : List CEl), kk ≤ L.length ∧ k = .int .i64 kk ∧ PSt n w.heap.size ws (.slice A13 L.length c13) u (.slice A8 V.length c8) L O V g7 gs2 ∧ Hid (Outs LD gs2 (E2.map CEl.d) kk (O.map CEl.d)) ∧ Hid (O.length ≤ E2.length + kk) ∧ Below w.heap.size w ws) (fun _ k _ => L.length - (intOf k).toNat)
                  case atStart => exact ⟨0, E2, Nat.zero_le _, rfl, hP2, Lib.hid (Outs.zero _ _ _), Lib.hid (by omega), hbs3⟩
                  case round =>
                    clear hP2 hbs3
                    obtain ⟨kk, O, hkk, rfl, P8, HOU, HOL, hbt8⟩ := hrel
                    by_cases hlt3 : kk < L.length
                    · obtain ⟨b2, off2, f, hA2, hblt2, hfj, hfm, hcs2, hin2⟩ := P8.l.conds.2.at hlt3
                      have hro2 := P8.l.rows f hfm
                      subst hA2
                      obtain ⟨y0, y1, y2, y3⟩ := hcs2
                      have HDJ := Lib.hid (show LD[kk]? = some f.d by rw [← HLd.out, List.getElem?_map, hfj]; rfl)
                      have hfn : f.n = n := P8.ln f hfm
                      obtain ⟨fq, fM, fA, en, fc, fK, fxs⟩ := f
                      simp only at y0 y1 y2 y3 hin2 hfn hro2
                      subst hfn
                      have hq2 : (kk : Int) < (L.length : Nat) := by omega
                      have HGK := Lib.hid (show kk < gs2.length by have := HGL4.out; omega)
                      have b6 := below_alloc wr (.cells #[.int .i64 fq, .int .i64 fM, .slice fA en fc, .int .i64 fK] 56)
                      have P6 := P8.step b6
                      have hbt6 := hbt8.trans (b6.mono hbt8.size)
                      have Y6 := CBox.new wr fq fM fA en fc fK
                      have J6 := hin2.step b6
                      have R6 := hro2.step b6
                      have d0 := Y6.c0
                      have d1 := Y6.c1
                      have d2 := Y6.c2
                      have d3 := Y6.c3
                      have b10 := below_alloc (wr.alloc (.cells #[.int .i64 fq, .int .i64 fM, .slice fA en fc, .int .i64 fK] 56)) (.cells #[.int .i64 fq, .int .i64 fM, .slice fA en fc, .int .i64 fK] 56)
                      have HROW := Lib.hid (show ((wr.alloc (.cells #[.int .i64 fq, .int .i64 fM, .slice fA en fc, .int .i64 fK] 56)).alloc (.cells #[.int .i64 fq, .int .i64 fM, .slice fA en fc, .int .i64 fK] 56)).heap[wr.heap.size + 1]? = some (.cells (CEl.cells ⟨fq, fM, fA, en, fc, fK, fxs⟩).toArray 56 (0, 0)) from (by have h9 := heap_alloc_new (wr.alloc (.cells #[.int .i64 fq, .int .i64 fM, .slice fA en fc, .int .i64 fK] 56)) (.cells #[.int .i64 fq, .int .i64 fM, .slice fA en fc, .int .i64 fK] 56); rw [World.size_alloc] at h9; exact h9))
                      have HCO := Lib.hid (show O.length + 1 ≤ 100000 by have := HOL.out; omega)
                      have t0 := P6.b.cell HGK.out
                      obtain ⟨gv, hgv⟩ : ∃ gv, gs2[kk]?.getD false = gv := ⟨_, rfl⟩
                      rw [hgv] at t0
                      have HGV := Lib.hid (show gs2[kk]? = some gv by
                        rw [List.getElem?_eq_getElem HGK.out] at hgv ⊢
                        exact congrArg some hgv)
                      clear hfj hfm hin2 hro2 b6 hgv P8 hbt8
                      cases gv
                      · have HO2 := Lib.hid (show Outs LD gs2 (E2.map CEl.d) (kk + 1) (O.map CEl.d ++ [⟨fq, fM, fxs, fK⟩]) from HOU.out.put HDJ.out HGV.out)
                        go_wp2_with (first | (at_builtin; refine wpList_append_cond3 rfl _ _ 34 rfl rfl rfl (P6.e.step b10) (wr.heap.size + 1) ⟨fq, fM, fA, en, fc, fK, fxs⟩ rfl HROW.out (J6.step b10) (R6.step b10) HCO.out (hbt6.trans (b10.mono hbt6.size)).size ?_; intro g12 cap12 w12 L12 hgr12 hb12 hf12; have P12 := PSt.put (x := ⟨fq, fM, fA, en, fc, fK, fxs⟩) (P6.step b10) rfl L12 hgr12 hf12; have hbt12 := (hbt6.trans (b10.mono hbt6.size)).trans hb12; clear L12 hgr12 hb12 hf12))
                        go_roundw
                        case rel => exact ⟨kk + 1, O ++ [⟨fq, fM, fA, en, fc, fK, fxs⟩], by omega, by go_num, P12, Lib.hid (by rw [List.map_append]; exact HO2.out), Lib.hid (by rw [List.length_append, List.length_singleton]; have := HOL.out; omega), hbt12⟩
                        case measure => simp [intOf]; omega
                      · have HO2 := Lib.hid (show Outs LD gs2 (E2.map CEl.d) (kk + 1) (O.map CEl.d) from HOU.out.skip HGV.out)
                        go_wp2
                        go_roundw
                        case rel => exact ⟨kk + 1, O, by omega, by go_num, P6, HO2, Lib.hid (by have := HOL.out; omega), hbt6⟩
                        case measure => simp [intOf]; omega
                    · obtain rfl : kk = L.length := by omega
                      have HOM := Lib.hid (show ∀ t, t ∈ O.map CEl.d ++ V.map CEl.d ↔ OutP outs LD t from by
                        have h9 := HOU.out
                        rw [← HLN2.out] at h9
                        exact h9.done HG0.out HG1.out HVDD.out)
                      have HSN := Lib.hid (show ∀ e ∈ O ++ V, e.n = n ∧ NormD n e.d from fun e he => ⟨by
                        rcases List.mem_append.1 he with he | he
                        · exact P8.en e he
                        · exact P8.vn e he, outp_norm HNE.out HLE.out ((HOM.out e.d).1 (by rw [← List.map_append]; exact List.mem_map_of_mem he))⟩)
                      have HVN := Lib.hid (show (A8 = none → c8 = 0) ∧ ∀ ad, A8 = some ad → ad.spot = none from by
                        rcases cl_shape P8.v with ⟨h1, h2, _⟩ | ⟨g, h1, _, _⟩
                        · exact ⟨(fun _ => h2), (fun ad h => (by rw [h1] at h; cases h))⟩
                        · exact ⟨(fun h => (by rw [h1] at h; cases h)), (fun ad h => (by rw [h1] at h; cases h; rfl))⟩)
                      have HTOT := Lib.hid (show O.length + V.length ≤ 2000 by have h1 := HOL.out; have h2 := HE2.out; have h3 := HSUM.out; omega)
                      have HCS := Lib.hid (show O.length + V.length ≤ 100000 by have := HTOT.out; omega)
                      have HSM2 := Lib.hid (show (O ++ V).length ≤ 2000 by rw [List.length_append]; exact HTOT.out)
                      have HPR := Lib.hid (fun (R : List CD) (h : R = sortS ((O ++ V).map CEl.d)) => (show pd = if normFits n ds = false ∨ 96 < R.length then ([], false, 3) else (R, false, 0) from by
                        have hg := sortS_good (n := n) ((O ++ V).map CEl.d) (fun d hd => by
                          obtain ⟨e, he, rfl⟩ := List.mem_map.1 hd
                          exact (HSN.out e he).2)
                        rw [← h] at hg
                        rw [← HPD.out]
                        have h9 := HND.out
                        have h8 := HLE.out.of
                        have h7 := HG1.out.void
                        have h6 : ∀ t, t ∈ R ↔ OutP outs LD t := fun t => (hg.2 t).trans (by rw [List.map_append]; exact HOM.out t)
                        rw [← HOUT.out] at h9 h8 h7 h6
                        exact piece_ref_some HKO.out h9 HV.out h8 h7 h6 hg.1))
                      clear HOU HG0 HG1
                      obtain ⟨OV, hOV⟩ : ∃ OV, O ++ V = OV := ⟨_, rfl⟩
                      rw [hOV] at HSN HSM2 HPR
                      have HOV := Lib.hid hOV
                      clear hOV
                      obtain ⟨A31, c31, rfl⟩ := P8.e.slice
                      cases fu
                      · have HFT := Lib.hid (show normFits n ds = true by
                          have h9 := HFU.out
                          cases hh : normFits n ds
                          · rw [hh] at h9; cases h9
                          · rfl)
                        go_wp2_with (first | (at_builtin; refine wpList_append_view rfl _ _ 34 rfl rfl rfl P8.e rfl P8.v.conds.2 HVN.out.1 HVN.out.2 P8.v.rows HCS.out hbt8.size ?_; intro u10 w10 L10 hb10; rw [HOV.out] at L10; obtain ⟨A10, c10, hu10⟩ := L10.slice; subst hu10; have hbt10 := hbt8.trans hb10) | (go_at_call 83; refine (ref_sorted hn12 A10 OV.length c10 OV w10 L10.conds.2 L10.rows HSN.out HSM2.out).mono ?_; rintro x w11 ⟨A11, k11, c11, R, rfl, L11, hRd, hRm, hb11⟩; have hbt11 := hbt10.trans (hb11.mono hbt10.size); have L12 := L11.mono (Nat.le_refl _) hbt10.size; obtain rfl : k11 = R.length := L11.conds.1; clear hb11 L11))
                        · rename_i hbig
                          go_ret3
                          exact full_ret (by rw [HPR.out _ hRd, if_pos (.inr (by rw [List.length_map]; omega))]) rfl hbt11
                        · rename_i hbig
                          go_ret3
                          have HPS := HPR.out _ hRd
                          rw [if_neg (by
                            rw [HFT.out, List.length_map]
                            rintro (h | h)
                            · cases h
                            · omega)] at HPS
                          rw [HPS]
                          exact ⟨A11, R.length, c11, R, rfl, L12, rfl, (fun e he => (HSN.out e (hRm e he)).1), hbt11⟩
                      · have HFT := Lib.hid (show normFits n ds = false by
                          have h9 := HFU.out
                          cases hh : normFits n ds
                          · rfl
                          · rw [hh] at h9; cases h9)
                        go_wp2_with (first | (at_builtin; refine wpList_append_view rfl _ _ 34 rfl rfl rfl P8.e rfl P8.v.conds.2 HVN.out.1 HVN.out.2 P8.v.rows HCS.out hbt8.size ?_; intro u10 w10 L10 hb10; rw [HOV.out] at L10; obtain ⟨A10, c10, hu10⟩ := L10.slice; subst hu10; have hbt10 := hbt8.trans hb10) | (go_at_call 83; refine (ref_sorted hn12 A10 OV.length c10 OV w10 L10.conds.2 L10.rows HSN.out HSM2.out).mono ?_; rintro x w11 ⟨A11, k11, c11, R, rfl, L11, hRd, hRm, hb11⟩; have hbt11 := hbt10.trans (hb11.mono hbt10.size); have L12 := L11.mono (Nat.le_refl _) hbt10.size; obtain rfl : k11 = R.length := L11.conds.1; clear hb11 L11))
                        go_ret3
                        exact full_ret (by rw [HPR.out _ hRd, HFT.out]; rfl) rfl hbt11
end Go.Proofs.YtkgnlloioaobiaaGreat
