/-
  For all conditions c and all lists x of integers, CondOther returns true and leaves memory as it was. No condition.
-/
import Derived.Test.YtbjkijifpikhkaaRows
import Derived.Test.YtbjkijifpikhkaaKit
import Derived.Test.YtbjkijifpikhkaaLinKit
import Derived.Test.YtbjkijifpikhkaaLinPoint
import Derived.Test.YtbjkijifpikhkaaCondKit
import Derived.Test.YtbjkijifpikhkaaCondHolds
import Derived.Test.YtbjkijifpikhkaaCondAwake
import Derived.Test.YtbjkijifpikhkaaCondArgs
import Derived.Test.YtbjkijifpikhkaaCondNeg
import Derived.Test.YtbjkijifpikhkaaNegMath
set_option linter.unusedVariables false
namespace Go.Proofs.Ytbjkijifpikhkaa.condOther
open Go.ChangeShapes Go.WideShapes Go.ChangeAt Go.RowKit

theorem hErr_zero {q M : Int} {xs : List Int} {K : Int} {ps : List Int} (h : hErr q M xs K ps = 0) : validC q M xs K = true ∧ dotErr xs ps = 0 ∧ hVal q M xs K ps = holdB q M (K + dotSum xs ps xs.length) := by
  have hv : validC q M xs K = true := by
    cases hv : validC q M xs K
    · unfold hErr at h; rw [hv] at h; cases h
    · rfl
  have he : atErr xs K ps = 0 := by unfold hErr at h; rw [if_pos hv] at h; exact h
  refine ⟨hv, ?_, ?_⟩
  · unfold atErr at he; rw [if_pos (validC_kind hv).1] at he; exact he
  · rw [(h_ok hv he).1]; unfold atVal; rw [if_pos he]


theorem count_take {p : CD → Bool} {ds : List CD} {i : Nat} {d : CD} (h : ds[i]? = some d) : (ds.take (i + 1)).countP p = (ds.take i).countP p + (if p d = true then 1 else 0) := by
  obtain ⟨hi, e⟩ := List.getElem?_eq_some_iff.1 h
  rw [List.take_succ_eq_append_getElem hi, List.countP_append, List.countP_singleton, e]

set_option maxHeartbeats 8000000 in
set_option maxRecDepth 100000 in
theorem walk (w : World) (q M : Int) (A : Option Addr) (n c : Nat) (K : Int) (xs : List Int) (h : IntsAt w A n xs) (_ : -9223372036854775808 ≤ q ∧ q ≤ 9223372036854775807) (_ : -9223372036854775808 ≤ M ∧ M ≤ 9223372036854775807) (_ : -9223372036854775808 ≤ K ∧ K ≤ 9223372036854775807) (A' : Option Addr) (n' c' : Nat) (ps : List Int) (h' : IntsAt w A' n' ps) :
    Calls Try.prog 8 #[condV q M A n c K, .slice A' n' c'] w fun e w' => e = .returned (.bool true) ∧ Below w.heap.size w w' := by
  have hB := below_alloc w (.cells #[.int .i64 q, .int .i64 M, .slice A n c, .int .i64 K] 26)
  have h1 := h.step hB
  have h2 := h'.step hB
  have B1 := CBox.new w q M A n c K
  have hl := h.len
  have hl' := h'.len
  have HH := Lib.hid (fun W (g1 : IntsAt W A n xs) (g2 : IntsAt W A' n' ps) => cond_holds q M A n c K xs A' n' c' ps W g1 g2)
  have HN := Lib.hid (fun W (h : IntsAt W A n xs) => cond_neg q M A n c K xs W h)
  obtain ⟨er, her⟩ : ∃ v, hErr q M xs K ps = v := ⟨_, rfl⟩
  obtain ⟨v, hv⟩ : ∃ v, hVal q M xs K ps = v := ⟨_, rfl⟩
  obtain ⟨s, hs⟩ : ∃ r, negE q M n xs K = r := ⟨_, rfl⟩
  obtain ⟨out, hout⟩ : ∃ r, negL q M n xs K = r := ⟨_, rfl⟩
  rw [her, hv] at HH
  rw [hs, hout] at HN
  by_cases he : er = 0
  · subst he
    by_cases h0 : s = 0
    · subst h0
      obtain ⟨hvc, hd, hval⟩ := hErr_zero her
      obtain ⟨d1, d2, d3⟩ := dotErr_zero.1 hd
      have hnn : n = n' := by omega
      have h12 : n ≤ 12 := by omega
      have hfull : negFull n (oppL q M n xs K) = false := by
        unfold negE at hs; rw [if_pos hvc] at hs
        cases hf : negFull n (oppL q M n xs K)
        · rfl
        · rw [hf] at hs; cases hs
      have hout2 : out = negOut n (oppL q M n xs K) := by rw [← hout]; unfold negL; rw [if_pos hvc, hfull]; rfl
      have hbad : (oppL q M n xs K).any (negBad n) = false := by
        unfold negFull at hfull; rw [Bool.or_eq_false_iff] at hfull; exact hfull.1
      have hok := (opp_ok (n := n) hvc).1
      have hcount : out.countP (holdD n ps) + (if v = true then 1 else 0) = 1 := by
        rw [hout2, out_count _ hok, ← hv, hval, hl]
        exact opp_count (validC_kind hvc).2 ps
      have hvalid := out_valid h12 hok hbad
      rw [← hout2] at hvalid
      have HC := Lib.hid hcount
      have HVD := Lib.hid hvalid
      have HG := Lib.hid (show ∀ j, j < n → -4294967296 ≤ ps[j]?.getD 0 ∧ ps[j]?.getD 0 ≤ 4294967296 from fun j hj => (d3 j (by omega)).2)
      obtain ⟨cn, hcn⟩ : ∃ cn : Nat, (if v = true then 1 else 0) = cn := ⟨_, rfl⟩
      have hcn1 : cn ≤ 1 := by rw [← hcn]; split <;> omega
      rw [hcn] at HC
      have HCN := Lib.hid hcn
      subst hnn
      clear hcount hvalid hok hbad hfull hout2 hout hs her hv hval hd d1 d2 d3 hvc hl hl' h h' hcn
      cases v
      all_goals
        go_enter Try.func8, Try.ntmps8
        go_wp2_with (first
          | (go_at_call 10; refine (HH.out _ h1 h2).mono ?_; rintro e w1 ⟨rfl, hb⟩; replace h1 := h1.step hb; replace h2 := h2.step hb; replace B1 := B1.step hb; have c0 := B1.c0; have c1 := B1.c1; have c2 := B1.c2; have c3 := B1.c3; replace hB := below_step hB hb)
          | (go_at_call 18; refine (HN.out _ h1).mono ?_; rintro e w2 ⟨u, els, rfl, hL, hd, hn, hb⟩; obtain ⟨A2, k2, rfl⟩ := hL.slice; replace h2 := h2.step hb; replace hB := below_step hB hb))
        clear B1 c0 c1 c2 c3 h1 HH HN hb
        have C0 := hL.conds.2
        have HD := Lib.hid (And.intro hd hn)
        have hfew := hL.few
        clear hd hn hL
        obtain ⟨m, hm⟩ : ∃ m, els.length = m := ⟨_, rfl⟩
        rw [hm] at C0 hfew ⊢
        have HM := Lib.hid (show out.length = m by rw [← HD.out.1, List.length_map]; exact hm)
        clear hm
        go_loopw [9, 33] (fun u v wr => ∃ (i k : Nat), i ≤ m ∧ v = .int .i64 i ∧ u = .int .i64 k ∧ k = cn + (out.take i).countP (holdD n ps) ∧ k ≤ i + 1 ∧ Below w2.heap.size w2 wr) (fun _ v _ => m - (intOf v).toNat)
        case atStart => exact ⟨0, cn, Nat.zero_le _, rfl, by have := HCN.out; simp at this; subst this; rfl, rfl, by omega, Below.refl _ _⟩
        case round =>
          obtain ⟨i, k, hi, rfl, rfl, hk, hki, hbr⟩ := hrel
          have HK := Lib.hid hk
          clear hk
          by_cases hlt : i < m
          · obtain ⟨b, off, e, rfl, hblt, hej, hmem, hcs, hin⟩ := (C0.step hbr).at hlt
            obtain ⟨x0, x1, x2, x3⟩ := hcs
            obtain ⟨eq, eM, eA, en, ec, eK, exs⟩ := e
            simp only at x0 x1 x2 x3 hin
            have hdj : out[i]? = some ⟨eq, eM, exs, eK⟩ := by rw [← HD.out.1, List.getElem?_map, hej]; rfl
            have hdm : (⟨eq, eM, exs, eK⟩ : CD) ∈ out := by obtain ⟨h8, h9⟩ := List.getElem?_eq_some_iff.1 hdj; exact h9 ▸ List.getElem_mem h8
            obtain ⟨v1, v2⟩ := HVD.out _ hdm
            obtain rfl : en = n := HD.out.2 _ hmem
            have hq1 : (i : Int) < m := by omega
            have hvk := validC_kind v1
            have hvb := validB_true.1 hvk.1
            have HI := Lib.hid (fun W (g1 : IntsAt W eA en exs) (g2 : IntsAt W A' en ps) => ref_is eq eM eA en ec eK exs A' en c' ps W g1 g2 hvb.2.1 h12 (Nat.le_refl _) (fun j hj => ⟨valid_at hvk.1 j, HG.out j hj⟩) hvk.2)
            have HV1 := Lib.hid v1
            have b5 := below_alloc wr (.cells #[.int .i64 eq, .int .i64 eM, .slice eA en ec, .int .i64 eK] 26)
            have y1 := hin.step b5
            have X1 := CBox.new wr eq eM eA en ec eK
            have h2r := (h2.step hbr).step b5
            have hbr1 := hbr.trans (b5.mono hbr.size)
            have hct := count_take (p := holdD en ps) hdj
            have hhd : holdD en ps ⟨eq, eM, exs, eK⟩ = holdB eq eM (eK + dotSum exs ps en) := rfl
            rw [hhd] at hct
            obtain ⟨bv, hbv⟩ : ∃ bv, holdB eq eM (eK + dotSum exs ps en) = bv := ⟨_, rfl⟩
            rw [hbv] at HI hct
            have HCT := Lib.hid hct
            clear hdj hdm v1 v2 hvk hvb hct hhd hbv hej hmem hin b5 C0
            have hwk : IntKind.i64.wrap ((k : Int) + 1) = (k : Int) + 1 := IntWalk.i64_in _ (by omega)
            cases bv
            · go_wp2_with (first
                | (go_at_call 13; refine (ref_cvalid _ _ _ _ _ _ exs _ y1).mono ?_; rintro e w3 ⟨rfl, hb3⟩; rw [HV1.out]; replace y1 := y1.step hb3; replace X1 := X1.step hb3; replace h2r := h2r.step hb3; replace hbr1 := hbr1.trans (hb3.mono hbr1.size); have d0 := X1.c0; have d1 := X1.c1; have d2 := X1.c2; have d3 := X1.c3)
                | (go_at_call 22; refine (HI.out _ y1 h2r).mono ?_; rintro e w4 ⟨rfl, hb4⟩; replace hbr1 := hbr1.trans (hb4.mono hbr1.size)))
              go_roundw
              case rel => exact ⟨i + 1, k, by omega, by go_num, rfl, by rw [HCT.out, HK.out]; rfl, by omega, hbr1⟩
              case measure => simp [intOf]; omega
            · go_wp2_with (first
                | (go_at_call 13; refine (ref_cvalid _ _ _ _ _ _ exs _ y1).mono ?_; rintro e w3 ⟨rfl, hb3⟩; rw [HV1.out]; replace y1 := y1.step hb3; replace X1 := X1.step hb3; replace h2r := h2r.step hb3; replace hbr1 := hbr1.trans (hb3.mono hbr1.size); have d0 := X1.c0; have d1 := X1.c1; have d2 := X1.c2; have d3 := X1.c3)
                | (go_at_call 22; refine (HI.out _ y1 h2r).mono ?_; rintro e w4 ⟨rfl, hb4⟩; replace hbr1 := hbr1.trans (hb4.mono hbr1.size)))
              go_roundw
              case rel => exact ⟨i + 1, k + 1, by omega, by go_num, by go_num, by rw [HCT.out, HK.out]; simp; omega, by omega, hbr1⟩
              case measure => simp [intOf]; omega
          · obtain rfl : i = m := by omega
            obtain rfl : k = 1 := by
              have h3 := HC.out
              rw [HK.out, List.take_of_length_le (by rw [HM.out]; exact Nat.le_refl _)]; omega
            have hge : ¬ ((i : Int) < i) := by omega
            replace hB := below_step hB hbr
            clear C0
            go_wp2_with (go_at_call 14; refine (awake3 _).mono ?_; rintro e w5 ⟨rfl, hb⟩; replace hB := below_step hB hb)
            go_ret
            exact ⟨rfl, hB⟩
    · have q1 : (s != 0) = true := by simpa using h0
      have q2 : (s == 0) = false := by simpa using h0
      clear hout hs her hv h0 h h' hl hl'
      go_enter Try.func8, Try.ntmps8
      go_wp2_with (first
        | (go_at_call 10; refine (HH.out _ h1 h2).mono ?_; rintro e w1 ⟨rfl, hb⟩; replace h1 := h1.step hb; replace h2 := h2.step hb; replace B1 := B1.step hb; have c0 := B1.c0; have c1 := B1.c1; have c2 := B1.c2; have c3 := B1.c3; replace hB := below_step hB hb)
        | (go_at_call 18; refine (HN.out _ h1).mono ?_; rintro e w2 ⟨u, els, rfl, hL, hd, hn, hb⟩; replace hB := below_step hB hb)
        | (go_at_call 14; refine (awake3 _).mono ?_; rintro e w5 ⟨rfl, hb⟩; replace hB := below_step hB hb))
      go_ret
      exact ⟨rfl, hB⟩
  · have q1 : (er != 0) = true := by simpa using he
    have q2 : (er == 0) = false := by simpa using he
    clear hout hs her hv he h h' hl hl'
    go_enter Try.func8, Try.ntmps8
    go_wp2_with (first
      | (go_at_call 10; refine (HH.out _ h1 h2).mono ?_; rintro e w1 ⟨rfl, hb⟩; replace h1 := h1.step hb; replace h2 := h2.step hb; replace B1 := B1.step hb; have c0 := B1.c0; have c1 := B1.c1; have c2 := B1.c2; have c3 := B1.c3; replace hB := below_step hB hb)
      | (go_at_call 18; refine (HN.out _ h1).mono ?_; rintro e w2 ⟨u, els, rfl, hL, hd, hn, hb⟩; replace hB := below_step hB hb)
      | (go_at_call 14; refine (awake3 _).mono ?_; rintro e w5 ⟨rfl, hb⟩; replace hB := below_step hB hb))
    go_ret
    exact ⟨rfl, hB⟩

set_option maxRecDepth 100000 in
theorem lifted (os : Os) (started : os.Started) (H : Type) (enc : TypeId × Value → H) :
    ReturnsInHanded {} Try.checked os 8 .any (Rows.condOtherSpec.pre6 enc Try.prog Try.f8 Rows.condOtherRow.domain false) (Rows.condOtherSpec.post enc Try.prog Try.f8 false true false false) := by
  refine returnsInHanded_of_change_sized (C := Try.checked) own started (by kernel_rfl) Try.func8
    (ChangeSpec.witness6 (enc := enc) (C := Try.checked) false ⟨#[], #[.agg #[.int .i64 0, .int .i64 0, .slice none 0 0, .int .i64 0], .slice none 0 0], []⟩ 8 (by kernel_rfl) (by kernel_rfl) (by kernel_rfl) (by kernel_rfl)) ?_
  intro W base args ds gs before hval0 hW _ hsz0 _
  have hval : ∀ (j : Nat) t v, Try.f8.params[j]? = some t → args[j]? = some v → Value.okWide Try.prog W .any base t v := hval0
  have hW' := hW
  have hlt := hW.lt
  obtain ⟨p, q, hA0, hV, rfl, hfz, hnd⟩ := hW
  have hA : DataW.TrodAll enc Try.prog W 0 (fun _ => true) true Try.f8.params.toList args.toList ds p := hA0
  have hsz : (DataW.weightsEach Try.prog (Try.f8.params.toList ++ []) (ds ++ gs)).all (· ≤ reachBytes) = true := hsz0
  rw [Try.params8] at hA hval hsz
  obtain ⟨rfl, rfl⟩ := trodVars_none hV
  obtain ⟨v0, vs0, d0, ds0, p0, q0, hargs, rfl, rfl, h0, r0⟩ := trodAll_cons hA
  obtain ⟨v1, vs1, d1, ds1, p1, q1, rfl, rfl, rfl, h1, r1⟩ := trodAll_cons r0
  obtain ⟨rfl, rfl, rfl⟩ := trodAll_nil r1
  obtain rfl : args = #[v0, v1] := by cases args; simp_all
  obtain ⟨z0, hsz⟩ := weights_cons hsz
  obtain ⟨z1, hsz⟩ := weights_cons hsz
  have hpost : ∀ W' : World, Below W.heap.size W W' → ∃ v, Ending.returned (.bool true) = .returned v ∧ Rows.condOtherSpec.post enc Try.prog Try.f8 false true false false W #[v0, v1] v W' :=
    fun W' hb => ⟨_, rfl, law_post laidOut (of_decide_eq_true (by kernel_rfl)) rfl rfl Try.underlying4 rfl hW' hb⟩
  obtain ⟨q0, M0, A0, n0, c0, K0, xs0, rfl, I0, C0, kq0, kM0, k0⟩ := cond_ofC (hval 0 26 v0 rfl rfl) (fun x hx => hlt x (by simp only [List.mem_append]; simp [hx])) z0 h0
  obtain ⟨A1, n1, c1, xs1, rfl, I1⟩ := ints_of Try.underlying22 Try.underlying3 (by kernel_rfl) (by kernel_rfl) (hval 1 22 v1 rfl rfl) (fun x hx => hlt x (by simp only [List.mem_append]; simp [hx])) z1 h1
  refine (walk q0 M0 A0 n0 c0 K0 xs0 I0 kq0 kM0 k0 A1 n1 c1 xs1 I1 (w := W)).mono fun e W' ⟨he, hb⟩ => ?_
  subst he
  exact hpost W' hb

theorem proved : Rows.CondOtherSaid :=
  OpenClaim.holds_of_wide 8 Try.f8 rfl rfl rfl rfl rfl rfl rfl ⟨rfl, rfl, rfl, rfl, rfl⟩ rfl rfl rfl rfl rfl (by kernel_rfl) Try.func8 (by kernel_rfl)
    (of_decide_eq_true (by kernel_rfl)) (by unfold Func.isWrapper; first | (rw [if_pos (by decide +kernel)]; kernel_rfl) | (rw [if_neg (by decide +kernel)]; exact ⟨rfl, rfl⟩))
    (fun os started H enc _ => lifted os started H enc)
#print axioms proved
end Go.Proofs.Ytbjkijifpikhkaa.condOther
