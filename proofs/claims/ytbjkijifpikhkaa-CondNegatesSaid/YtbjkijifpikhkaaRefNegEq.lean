/-
  The reference's Negate at the kind Eq.
-/
import Derived.Test.YtbjkijifpikhkaaCondNeg
import Derived.Test.YtbjkijifpikhkaaCondMadeAll
import Derived.Test.YtbjkijifpikhkaaNegMath
import Derived.Test.YtbjkijifpikhkaaLinMix
import Derived.Deep.RegionHeld3
import Derived.Deep.Cut
import Derived.Test.YtbjkijifpikhkaaRefNegGe
namespace Go.Proofs.Ytbjkijifpikhkaa
open Go.RowKit
set_option linter.unusedVariables false
set_option linter.unusedSimpArgs false

set_option maxHeartbeats 16000000 in
set_option maxRecDepth 100000 in
theorem rneg_eq (M : Int) (A : Option Addr) (n c : Nat) (K : Int) (xs : List Int) (hv : validC 1 M xs K = true) (w : World) (hI : IntsAt w A n xs) :
    Calls Try.prog 19 #[condV 1 M A n c K] w fun e w' => NegRet w e w' n (if negFull n (oppL 1 M n xs K) = true then [] else negOut n (oppL 1 M n xs K)) (if negFull n (oppL 1 M n xs K) = true then 3 else 0) := by
  have hsm := hI.small
  have hmk := make_ints n hsm
  have hB := below_alloc w (.cells #[.int .i64 1, .int .i64 M, .slice A n c, .int .i64 K] 26)
  have h1 := hI.step hB
  have B1 := CBox.new w 1 M A n c K
  obtain ⟨hok, hlen⟩ := opp_ok (n := n) hv
  have hvb := (validC_kind hv).1
  have hx : Tame xs := fun j => valid_at hvb j
  have hK := fitsB_true.1 (validB_true.1 hvb).2.1
  have h12 : n ≤ 12 := by have := (validB_true.1 hvb).1; have := hI.len; omega
  have hzt : Tame (zeros n) := fun j => by rw [zeros_get]; omega
  have HM := Lib.hid (fun (s t : Int) (hs : -1048576 ≤ s ∧ s ≤ 1048576) (ht : -1048576 ≤ t ∧ t ≤ 1048576) W (B : Option Addr) (g1 : IntsAt W A n xs) (g2 : IntsAt W B n (zeros n)) => ref_mix_o s t A n c K xs B n n 1 (zeros n) W g1 g2 (Nat.le_refl _) hs ht hK (by omega) hx hzt)
  simp only [mulL_mix, Int.mul_one] at HM
  obtain ⟨ds, hds⟩ : ∃ ds, oppL 1 M n xs K = ds := ⟨_, rfl⟩
  have HDS := Lib.hid hds
  rw [hds] at hok hlen ⊢
  have HV := Lib.hid hv
  have HOK := Lib.hid hok
  have HLEN := Lib.hid hlen
  obtain ⟨out, hout⟩ : ∃ o, (if negFull n ds = true then [] else negOut n ds) = o := ⟨_, rfl⟩
  obtain ⟨er, her⟩ : ∃ o : Int, (if negFull n ds = true then 3 else 0) = o := ⟨_, rfl⟩
  rw [hout, her]
  have HP := Lib.hid (And.intro hout.symm her.symm)
  have T1 : True := trivial
  clear hv hI hds hok hlen hout her hx hK hzt hvb
  obtain ⟨k1, hk1⟩ : ∃ k, -1 * K + -1 = k := ⟨_, rfl⟩
  have HMb := Lib.hid (HM.out (-1) (-1) (by omega) (by omega))
  rw [hk1] at HMb
  obtain ⟨k2, hk2⟩ : ∃ k, 1 * K + -1 = k := ⟨_, rfl⟩
  have HMa := Lib.hid (HM.out 1 (-1) (by omega) (by omega))
  rw [hk2] at HMa
  have HR := Lib.hid (show ds = [⟨0, 0, mulL n 1 xs, k2⟩, ⟨0, 0, mulL n (-1) xs, k1⟩] by rw [← HDS.out]; unfold oppL; rw [if_neg (by decide), if_pos rfl, hk1, hk2])
  clear hk1 hk2 HM
  go_enter Try.func19, Try.ntmps19
  go_wp2_with (first
    | (go_at_call 13; have t1 := T1; clear T1 t1; refine (ref_cvalid _ _ _ _ _ _ xs _ h1).mono ?_; rintro e w1 ⟨rfl, hb⟩; rw [HV.out]; have hbz := (below_step hB hb).size; have c2 := (B1.step hb).c2; have b1 := below_alloc w1 (.cells ((zeros n).map (Value.int .i64)).toArray 3); have b2 := below_alloc (w1.alloc (.cells ((zeros n).map (Value.int .i64)).toArray 3)) (.cells #[.slice (some ⟨w1.heap.size, 0, none⟩) n n, .int .i64 0] 24); have b3 := below_alloc ((w1.alloc (.cells ((zeros n).map (Value.int .i64)).toArray 3)).alloc (.cells #[.slice (some ⟨w1.heap.size, 0, none⟩) n n, .int .i64 0] 24)) (.cells #[.slice (some ⟨w1.heap.size, 0, none⟩) n n, .int .i64 1] 24); replace hB := below_step (below_step (below_step (below_step hB hb) b1) b2) b3; replace h1 := (((h1.step hb).step b1).step b2).step b3; replace B1 := (((B1.step hb).step b1).step b2).step b3; have OZ := ((OwnRow.new w1 (zeros n) n (zeros_len n)).step b2).step b3; have Z4 := (LBox.new (w1.alloc (.cells ((zeros n).map (Value.int .i64)).toArray 3)) (some ⟨w1.heap.size, 0, none⟩) n n 0); have z40 := Z4.c0; replace Z4 := Z4.step b3; have Z5 := (LBox.new ((w1.alloc (.cells ((zeros n).map (Value.int .i64)).toArray 3)).alloc (.cells #[.slice (some ⟨w1.heap.size, 0, none⟩) n n, .int .i64 0] 24)) (some ⟨w1.heap.size, 0, none⟩) n n 1); simp only [World.size_alloc] at Z4 Z5 z40; have IZ := OZ.ints hsm (zeros_wf n); have c0 := B1.c0; have c1 := B1.c1; have c22 := B1.c2; have c3 := B1.c3; have z50 := Z5.c0; have z51 := Z5.c1; clear b1 b2 b3 hb))
  generalize hw3 : (((w1.alloc (.cells ((zeros n).map (Value.int .i64)).toArray 3)).alloc (.cells #[.slice (some ⟨w1.heap.size, 0, none⟩) n n, .int .i64 0] 24)).alloc (.cells #[.slice (some ⟨w1.heap.size, 0, none⟩) n n, .int .i64 1] 24)) = w3 at *
  clear hw3
  replace hB := hB.drew
  replace h1 := h1.step (Below.refl _ w3).drew
  replace B1 := B1.step (Below.refl _ w3).drew
  replace OZ := OZ.step (Below.refl _ w3).drew
  replace Z4 := Z4.step (Below.refl _ w3).drew
  replace Z5 := Z5.step (Below.refl _ w3).drew
  replace IZ := IZ.step (Below.refl _ w3).drew
  clear c2 z40 c0 c1 hmk
  go_region_held3 (fun W => W.cell? ⟨w.heap.size, 2, none⟩ = some (.slice A n c) ∧ W.cell? ⟨w.heap.size, 3, none⟩ = some (.int .i64 K) ∧ W.cell? ⟨w1.heap.size + 1 + 1, 0, none⟩ = some (.slice (some ⟨w1.heap.size, 0, none⟩) n n) ∧ W.cell? ⟨w1.heap.size + 1 + 1, 1, none⟩ = some (.int .i64 1)) (first | exact ⟨c22, c3, z50, z51⟩ | exact ⟨B1.c2, B1.c3, Z5.c0, Z5.c1⟩ | exact ⟨(B1.alloc _).c2, (B1.alloc _).c3, (Z5.alloc _).c0, (Z5.alloc _).c1⟩ | go_keep)
    (first
      | (go_at_call 23; with_reducible (show Calls _ _ #[Value.int IntKind.i64 1, _, _, _] _ _); refine (HMa.out _ _ h1 IZ).mono ?_; rintro e w4 ⟨ga, ka, rfl, hga, Ia, Oa, hb⟩; replace hB := below_step hB hb; replace h1 := h1.step hb; replace B1 := B1.step hb; replace OZ := OZ.step hb; replace Z4 := Z4.step hb; replace Z5 := Z5.step hb; replace IZ := IZ.step hb; try replace Ib := Ib.step hb)
      | (go_at_call 23; with_reducible (show Calls _ _ #[Value.int IntKind.i64 (-1), _, _, _] _ _); refine (HMb.out _ _ h1 IZ).mono ?_; rintro e w4 ⟨gb, kb, rfl, hgb, Ib, Ob, hb⟩; replace hB := below_step hB hb; replace h1 := h1.step hb; replace B1 := B1.step hb; replace OZ := OZ.step hb; replace Z4 := Z4.step hb; replace Z5 := Z5.step hb; replace IZ := IZ.step hb; try replace Ia := Ia.step hb))
  all_goals
    have b6 := below_alloc w4 (.cells #[.int .i64 0, .int .i64 0, .slice (some ⟨ga, 0, none⟩) n ka, .int .i64 k2, .int .i64 0, .int .i64 0, .slice (some ⟨gb, 0, none⟩) n kb, .int .i64 k1] 26)
    have C0 : CondsAt (w4.alloc (.cells #[.int .i64 0, .int .i64 0, .slice (some ⟨ga, 0, none⟩) n ka, .int .i64 k2, .int .i64 0, .int .i64 0, .slice (some ⟨gb, 0, none⟩) n kb, .int .i64 k1] 26)) (some ⟨w4.heap.size, 0, none⟩) 2 [⟨0, 0, some ⟨ga, 0, none⟩, n, ka, k2, mulL n 1 xs⟩, ⟨0, 0, some ⟨gb, 0, none⟩, n, kb, k1, mulL n (-1) xs⟩] := conds_lit (els := [⟨0, 0, some ⟨ga, 0, none⟩, n, ka, k2, mulL n 1 xs⟩, ⟨0, 0, some ⟨gb, 0, none⟩, n, kb, k1, mulL n (-1) xs⟩]) (heap_alloc_new w4 _) (by simp) (fun e he => by
      rcases List.mem_cons.1 he with rfl | he
      · exact Ia.step b6
      · rw [List.mem_singleton.1 he]; exact Ib.step b6)
    have HD0 := Lib.hid (show List.map CEl.d [⟨0, 0, some ⟨ga, 0, none⟩, n, ka, k2, mulL n 1 xs⟩, ⟨0, 0, some ⟨gb, 0, none⟩, n, kb, k1, mulL n (-1) xs⟩] = ds ∧ ∀ e ∈ ([⟨0, 0, some ⟨ga, 0, none⟩, n, ka, k2, mulL n 1 xs⟩, ⟨0, 0, some ⟨gb, 0, none⟩, n, kb, k1, mulL n (-1) xs⟩] : List CEl), e.n = n from ⟨by rw [HR.out]; rfl, fun e he => by
      rcases List.mem_cons.1 he with rfl | he
      · rfl
      · rw [List.mem_singleton.1 he]⟩)
    replace hB := below_step hB b6
    replace B1 := B1.step b6
    replace Z4 := Z4.step b6
    replace OZ := OZ.step b6
    clear b6 Ia Ib Oa Ob h1 IZ Z5 c22 c3 z50 z51 hga hgb
    go_wp2
    generalize w4.alloc (.cells #[.int .i64 0, .int .i64 0, .slice (some ⟨ga, 0, none⟩) n ka, .int .i64 k2, .int .i64 0, .int .i64 0, .slice (some ⟨gb, 0, none⟩) n kb, .int .i64 k1] 26) = w5 at *
    generalize ([⟨0, 0, some ⟨ga, 0, none⟩, n, ka, k2, mulL n 1 xs⟩, ⟨0, 0, some ⟨gb, 0, none⟩, n, kb, k1, mulL n (-1) xs⟩] : List CEl) = els0 at *
    have HME := Lib.hid (show els0.length = 2 from C0.len)
    generalize (some ⟨w4.heap.size, 0, none⟩ : Option Addr) = A0 at C0 ⊢
    have HM2 := Lib.hid (show ds.length = 2 by rw [← HD0.out.1, List.length_map]; exact HME.out)
    have hm1 : 2 ≤ 511 := by have := HM2.out; have := HLEN.out; omega
    have l1 := B1.lt
    have l4 := Z4.lt
    have lz := OZ.lt
    have hbw := hB.size
    go_loopw [8, 68] (fun u v wr => ∃ (i : Nat) (els : List CEl), i ≤ 2 ∧ v = .int .i64 i ∧ CL2 w.heap.size w5.heap.size wr u els ∧ els.map CEl.d = negOut n (ds.take i) ∧ (∀ e ∈ els, e.n = n) ∧ (∀ j d, j < i → ds[j]? = some d → negBad n d = false) ∧ Below w5.heap.size w5 wr) (fun _ v _ => 2 - (intOf v).toNat)
    case atStart => exact ⟨0, [], Nat.zero_le _, rfl, CL2.nil _ _ _, rfl, (fun e h => nomatch h), (fun j d h => absurd h (by omega)), Below.refl _ _⟩
    case round =>
      obtain ⟨i, els, hi, rfl, hL, hd, hn, hbad, hbr⟩ := hrel
      have hlen2 : els.length ≤ i := by
        have h3 := congrArg List.length hd
        rw [List.length_map] at h3
        have h4 := out_len n (ds.take i)
        have h5 := List.length_take_le i ds
        omega
      have HD := Lib.hid (And.intro hd (And.intro hn hbad))
      have Z6 := Z4.below hbr l4
      have OZ6 := OZ.below hbr lz
      have C1 := C0.step hbr
      have hNs := hbr.size
      clear hd hn hbad
      obtain ⟨A9, k9, rfl⟩ := hL.slice
      by_cases hlt : i < 2
      · obtain ⟨b, off, e, rfl, hblt, hej, hmem, hcs, hin⟩ := C1.at hlt
        obtain ⟨x0, x1, x2, x3⟩ := hcs
        obtain ⟨eq, eM, eA, en, ec, eK, exs⟩ := e
        simp only at x0 x1 x2 x3 hin
        have hdj : ds[i]? = some ⟨eq, eM, exs, eK⟩ := by rw [← HD0.out.1, List.getElem?_map, hej]; rfl
        have hdm : (⟨eq, eM, exs, eK⟩ : CD) ∈ ds := by obtain ⟨h8, h9⟩ := List.getElem?_eq_some_iff.1 hdj; exact h9 ▸ List.getElem_mem h8
        obtain ⟨ok1, ok2, ok3, ok4⟩ := HOK.out _ hdm
        obtain rfl : en = n := HD0.out.2 _ hmem
        have hq1 : (i : Int) < 2 := by omega
        have HN := Lib.hid (fun W (h : IntsAt W eA en exs) => ref_made eq eM eA en ec (by omega) eK exs ok1 ok2 ok3 W h)
        have hst := nf_state (K := eK) ok4 ok1
        have hkd := nf_valid0 (K := eK) ok4 ok1
        have hbd : negBad en ⟨eq, eM, exs, eK⟩ = (decide ((nf eq eM en exs eK).2.2.2.2 = 0) && !validB (nf eq eM en exs eK).2.2.1 (nf eq eM en exs eK).2.2.2.1) := rfl
        have hone : negOne en ⟨eq, eM, exs, eK⟩ = if (nf eq eM en exs eK).2.2.2.2 = 0 then [⟨(nf eq eM en exs eK).1, (nf eq eM en exs eK).2.1, (nf eq eM en exs eK).2.2.1, (nf eq eM en exs eK).2.2.2.1⟩] else if (nf eq eM en exs eK).2.2.2.2 = 1 then [⟨0, 0, zeros en, 0⟩] else [] := rfl
        obtain ⟨r, hr⟩ : ∃ r, nf eq eM en exs eK = r := ⟨_, rfl⟩
        rw [hr] at HN hst hbd hone hkd
        have HJ := Lib.hid hdj
        have b0 := below_alloc wr (.cells #[.int .i64 eq, .int .i64 eM, .slice eA en ec, .int .i64 eK] 26)
        have y1 := hin.step b0
        have L1 := hL.step b0
        have hbr1 := hbr.trans (b0.mono hNs)
        have Z7 := Z6.step b0
        have OZ7 := OZ6.step b0
        clear hdj hdm hr ok1 ok2 ok3 ok4 hej hmem hin b0
        rcases hst with ⟨hs, hX, hM5⟩ | hs | hs
        · rw [if_pos hs] at hone
          have hkd := hkd hs
          cases hvb : validB r.2.2.1 r.2.2.2.1
          · rw [hvb, hs] at hbd
            have HF := Lib.hid (show negFull en ds = true by unfold negFull; rw [any_take HJ.out hbd]; rfl)
            have HV5 := Lib.hid (hkd.trans hvb)
            clear hone hbd hvb hkd
            go_wp2_with (first
              | (go_at_call 30; refine (HN.out _ y1).mono ?_; rintro e w4 ⟨A4, n4, c4, rfl, I4, hb4, O4⟩; have b5 := below_alloc w4 (.cells #[.int .i64 r.1, .int .i64 r.2.1, .slice A4 n4 c4, .int .i64 r.2.2.2.1] 26); replace I4 := I4.step b5; have X7 := CBox.new w4 r.1 r.2.1 A4 n4 c4 r.2.2.2.1; have d0 := X7.c0; have d1 := X7.c1; have d2 := X7.c2; have d3 := X7.c3; have hbr5 := (hbr1.trans (hb4.mono hbr1.size)).trans (b5.mono (Nat.le_trans hbr1.size hb4.size)))
              | (go_at_call 13; refine (ref_cvalid _ _ _ _ _ _ _ _ I4).mono ?_; rintro e w5 ⟨rfl, hb6⟩; rw [HV5.out]; replace hbr5 := hbr5.trans (hb6.mono hbr5.size)))
            have hEnd := below_step hB hbr5
            go_ret2
            rw [HP.out.1, HP.out.2, HF.out]
            exact ⟨_, [], rfl, CL.nil _ _, rfl, (fun e h => nomatch h), hEnd⟩
          · rw [hvb, hs] at hbd
            have HB := Lib.hid (And.intro hone hbd)
            have HV5 := Lib.hid (hkd.trans hvb)
            clear hone hbd hvb hkd
            go_wp2_with (first
              | (go_at_call 30; refine (HN.out _ y1).mono ?_; rintro e w4 ⟨A4, n4, c4, rfl, I4, hb4, O4⟩; obtain rfl : n4 = en := I4.len.symm.trans hX; have b5 := below_alloc w4 (.cells #[.int .i64 r.1, .int .i64 r.2.1, .slice A4 n4 c4, .int .i64 r.2.2.2.1] 26); have R4 := ((FreshRow.ok O4 (Nat.le_trans hbw hbr1.size)).step b5); replace I4 := I4.step b5; have X7 := CBox.new w4 r.1 r.2.1 A4 n4 c4 r.2.2.2.1; have d0 := X7.c0; have d1 := X7.c1; have d2 := X7.c2; have d3 := X7.c3; have L5 := (L1.step hb4).step b5; have hbr5 := (hbr1.trans (hb4.mono hbr1.size)).trans (b5.mono (Nat.le_trans hbr1.size hb4.size)))
              | (go_at_call 13; refine (ref_cvalid _ _ _ _ _ _ _ _ I4).mono ?_; rintro e w5 ⟨rfl, hb6⟩; rw [HV5.out]; have b7 := below_alloc w5 (.cells #[.int .i64 r.1, .int .i64 r.2.1, .slice A4 n4 c4, .int .i64 r.2.2.2.1] 26); have G7 := heap_alloc_new w5 (.cells #[.int .i64 r.1, .int .i64 r.2.1, .slice A4 n4 c4, .int .i64 r.2.2.2.1] 26); replace hbr5 := hbr5.trans (hb6.mono hbr5.size); replace hbr5 := hbr5.trans (b7.mono hbr5.size); have L7 := (L5.step hb6).step b7; have I7 := (I4.step hb6).step b7; have R7 := (R4.step hb6).step b7; replace X7 := X7.step hb6; have d0 := X7.c0; have d1 := X7.c1; have d2 := X7.c2; have d3 := X7.c3)
              | (at_builtin; refine wpList_append_cond rfl _ _ 36 rfl rfl rfl L7 w5.heap.size ⟨r.1, r.2.1, A4, n4, c4, r.2.2.2.1, r.2.2.1⟩ rfl G7 I7 R7 (by omega) hbr5.size ?_; intro g8 cap8 w8 L8 gr8 hb8; replace hbr5 := hbr5.trans hb8))
            go_roundw
            case rel => exact ⟨i + 1, els ++ [⟨r.1, r.2.1, A4, n4, c4, r.2.2.2.1, r.2.2.1⟩], by omega, by go_num, L8, by rw [out_snoc HJ.out, HB.out.1, List.map_append, HD.out.1]; rfl, (fun e he => by
              rcases List.mem_append.1 he with h | h
              · exact HD.out.2.1 e h
              · rw [List.mem_singleton.1 h]), (fun j d hj hjd => by
              rcases Nat.lt_or_eq_of_le (Nat.le_of_lt_succ hj) with h | rfl
              · exact HD.out.2.2 j d h hjd
              · rw [HJ.out] at hjd; cases hjd; exact HB.out.2), hbr5⟩
            case measure => simp [intOf]; omega
        · rw [if_neg (by rw [hs]; decide), if_pos hs] at hone
          rw [hs] at hbd
          have HB := Lib.hid (And.intro hone hbd)
          clear hone hbd hkd
          go_wp2_with (first
            | (go_at_call 30; refine (HN.out _ y1).mono ?_; rintro e w4 ⟨A4, n4, c4, rfl, I4, hb4, O4⟩; have b5 := below_alloc w4 (.cells #[.int .i64 r.1, .int .i64 r.2.1, .slice A4 n4 c4, .int .i64 r.2.2.2.1] 26); have Z8 := (Z7.step hb4).step b5; have OZ8 := (OZ7.step hb4).step b5; have z0 := Z8.c0; have z1 := Z8.c1; have hbr5 := (hbr1.trans (hb4.mono hbr1.size)).trans (b5.mono (Nat.le_trans hbr1.size hb4.size)); have L5 := (L1.step hb4).step b5; have b7 := below_alloc (w4.alloc (.cells #[.int .i64 r.1, .int .i64 r.2.1, .slice A4 n4 c4, .int .i64 r.2.2.2.1] 26)) (.cells #[.int .i64 0, .int .i64 0, .slice (some ⟨w1.heap.size, 0, none⟩) en en, .int .i64 0] 26); have G7 := heap_alloc_new (w4.alloc (.cells #[.int .i64 r.1, .int .i64 r.2.1, .slice A4 n4 c4, .int .i64 r.2.2.2.1] 26)) (.cells #[.int .i64 0, .int .i64 0, .slice (some ⟨w1.heap.size, 0, none⟩) en en, .int .i64 0] 26); simp only [World.size_alloc] at G7; have L7 := L5.step b7; have OZ9 := OZ8.step b7; have I7 := OZ9.ints hsm (zeros_wf en); have R7 := FreshRow.ok (N := w.heap.size) (N' := w.heap.size) (.inr ⟨_, rfl, hbz, OZ9⟩) (Nat.le_refl _); replace hbr5 := hbr5.trans (b7.mono hbr5.size); have hN7 := hbr5.size)
            | (at_builtin; refine wpList_append_cond rfl _ _ 36 rfl rfl rfl L7 (w4.heap.size + 1) ⟨0, 0, some ⟨w1.heap.size, 0, none⟩, en, en, 0, zeros en⟩ rfl G7 I7 R7 (by omega) hN7 ?_; intro g8 cap8 w8 L8 gr8 hb8; replace hbr5 := hbr5.trans hb8))
          go_roundw
          case rel => exact ⟨i + 1, els ++ [⟨0, 0, some ⟨w1.heap.size, 0, none⟩, en, en, 0, zeros en⟩], by omega, by go_num, L8, by rw [out_snoc HJ.out, HB.out.1, List.map_append, HD.out.1]; rfl, (fun e he => by
            rcases List.mem_append.1 he with h | h
            · exact HD.out.2.1 e h
            · rw [List.mem_singleton.1 h]), (fun j d hj hjd => by
            rcases Nat.lt_or_eq_of_le (Nat.le_of_lt_succ hj) with h | rfl
            · exact HD.out.2.2 j d h hjd
            · rw [HJ.out] at hjd; cases hjd; exact HB.out.2), hbr5⟩
          case measure => simp [intOf]; omega
        · rw [if_neg (by rw [hs]; decide), if_neg (by rw [hs]; decide)] at hone
          rw [hs] at hbd
          have HB := Lib.hid (And.intro hone hbd)
          clear hone hbd hkd
          go_wp2_with (go_at_call 30; refine (HN.out _ y1).mono ?_; rintro e w4 ⟨A4, n4, c4, rfl, I4, hb4, O4⟩; have b5 := below_alloc w4 (.cells #[.int .i64 r.1, .int .i64 r.2.1, .slice A4 n4 c4, .int .i64 r.2.2.2.1] 26); have L5 := (L1.step hb4).step b5; have hbr5 := (hbr1.trans (hb4.mono hbr1.size)).trans (b5.mono (Nat.le_trans hbr1.size hb4.size)))
          go_roundw
          case rel => exact ⟨i + 1, els, by omega, by go_num, L5, by rw [out_snoc HJ.out, HB.out.1, List.append_nil]; exact HD.out.1, HD.out.2.1, (fun j d hj hjd => by
            rcases Nat.lt_or_eq_of_le (Nat.le_of_lt_succ hj) with h | rfl
            · exact HD.out.2.2 j d h hjd
            · rw [HJ.out] at hjd; cases hjd; exact HB.out.2), hbr5⟩
          case measure => simp [intOf]; omega
      · have hC := hL.conds.2
        have hall : negOut n (ds.take i) = negOut n ds := by rw [List.take_of_length_le (by rw [HM2.out]; omega)]
        have HA := Lib.hid (And.intro (show ds.any (negBad n) = false from any_none fun j d hj => HD.out.2.2 j d (by rw [HM2.out] at hj; omega)) (show els.length = (negOut n ds).length by rw [← hall, ← HD.out.1, List.length_map]))
        have hge : ¬ ((i : Int) < 2) := by omega
        have hEnd := below_step hB hbr
        have HALL := Lib.hid hall
        clear hall
        by_cases h4 : 400 < els.length
        · have HF := Lib.hid (show negFull n ds = true by unfold negFull; rw [HA.out.1, ← HA.out.2]; simpa using h4)
          have h4i : (400 : Int) < (els.length : Int) := by omega
          go_wp2
          go_ret2
          rw [HP.out.1, HP.out.2, HF.out]
          exact ⟨_, [], rfl, CL.nil _ _, rfl, (fun e h => nomatch h), hEnd⟩
        · have HF := Lib.hid (show negFull n ds = false by unfold negFull; rw [HA.out.1, ← HA.out.2]; simpa using h4)
          have h4i : ¬ (400 : Int) < (els.length : Int) := by omega
          have hL2 := hL.mono (Nat.le_refl _) hbw
          go_wp2
          go_ret2
          rw [HP.out.1, HP.out.2, HF.out]
          exact ⟨_, els, rfl, hL2, by rw [HD.out.1, HALL.out]; rfl, HD.out.2.1, hEnd⟩
end Go.Proofs.Ytbjkijifpikhkaa
