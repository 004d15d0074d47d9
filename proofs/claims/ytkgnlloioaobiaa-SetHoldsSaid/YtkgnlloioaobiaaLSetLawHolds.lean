/-
  For all sets s of the law's bounds and all lists x, SetHolds returns true and leaves memory as it was. No condition.
-/
import Derived.Test.YtkgnlloioaobiaaRows
import Derived.Test.YtkgnlloioaobiaaMe

set_option linter.unusedVariables false
set_option linter.unusedSimpArgs false
namespace Go.Proofs.Ytkgnlloioaobiaa.setHolds
open Go.ChangeShapes Go.WideShapes Go.ChangeAt Go.RowKit

theorem all_take {α : Type} {f : α → Bool} {l : List α} {j : Nat} {x : α} (h : l[j]? = some x) : (l.take (j + 1)).all f = ((l.take j).all f && f x) := by
  rw [List.take_add_one, h]
  simp
theorem any_take {α : Type} {f : α → Bool} {l : List α} {j : Nat} {x : α} (h : l[j]? = some x) : (l.take (j + 1)).any f = ((l.take j).any f || f x) := by
  rw [List.take_add_one, h]
  simp
theorem s_elim {D : Int} {ps : List PEl} {xs : List Int} (h : sErr D ps xs = 0) : validS D ps = true ∧ (xs.length : Int) = D ∧ pointB xs = true := by
  unfold sErr at h
  split at h
  · rename_i h1
    split at h
    · rename_i h2
      split at h
      · rename_i h3; exact ⟨h1, h2, h3⟩
      · cases h
    · cases h
  · cases h
theorem s_false {D : Int} {ps : List PEl} {xs : List Int} (h : sErr D ps xs ≠ 0) : sVal D ps xs = false := by
  unfold sVal
  rw [if_neg h]


set_option maxRecDepth 100000 in
set_option maxHeartbeats 8000000 in
theorem walk (w : World) (D : Int) (A : Option Addr) (n c : Nat) (ps : List PEl) (h : PiecesAt w A n ps) (_ : -9223372036854775808 ≤ D ∧ D ≤ 9223372036854775807) (A' : Option Addr) (k c' : Nat) (xs : List Int) (hI : IntsAt w A' k xs) :
    Calls Try.prog 9 #[setV D A n c, .slice A' k c'] w fun e w' => e = .returned (.bool true) ∧ Below w.heap.size w w' := by
  have hB := below_alloc w (.cells #[.int .i64 D, .slice A n c] 24)
  have P1 := h.step hB
  have I1 := hI.step hB
  have X1 := SetBox.new w D A n c
  have HXL := Lib.hid hI.len
  obtain ⟨v, hv⟩ : ∃ v, sVal D ps xs = v := ⟨_, rfl⟩
  obtain ⟨er, her⟩ : ∃ v, sErr D ps xs = v := ⟨_, rfl⟩
  have HV := Lib.hid hv
  have HE := Lib.hid her
  obtain ⟨fw, hfw⟩ : ∃ v, fewB 402 98 [⟨D, A, n, c, ps⟩] = v := ⟨_, rfl⟩
  have HF := Lib.hid hfw
  have x0 := X1.c0
  have x1 := X1.c1
  clear h hI hfw
  go_enter Try.func9, Try.ntmps9
  cases fw
  · clear hv her
    go_wp2_with (first
      | (go_at_call 10; refine (few_one _ 1 (by simp) P1).mono ?_; rintro e w1 ⟨rfl, hb⟩; rw [HF.out]; replace hB := below_step hB hb; replace P1 := P1.step hb; replace I1 := I1.step hb; replace X1 := X1.step hb; clear x0 x1 hb; have x0 := X1.c0; have x1 := X1.c1)
      | (go_at_call 11; refine (awake4 _).mono ?_; rintro e w9 ⟨rfl, hb⟩; replace hB := below_step hB hb))
    go_ret
    exact ⟨rfl, hB⟩
  · by_cases h0 : er = 0
    · subst h0
      have HS := Lib.hid (s_elim her)
      have HR := Lib.hid (show v = hasS xs ps by rw [← hv]; unfold sVal; rw [if_pos her])
      have hD : (k : Int) = D := by have h1 := HS.out.2.1; have h2 := HXL.out; omega
      have HD := Lib.hid hD
      clear hv her hD
      go_wp2_with (first
        | (go_at_call 10; refine (few_one _ 1 (by simp) P1).mono ?_; rintro e w1 ⟨rfl, hb⟩; rw [HF.out]; replace hB := below_step hB hb; replace P1 := P1.step hb; replace I1 := I1.step hb; replace X1 := X1.step hb; clear x0 x1 hb; have x0 := X1.c0; have x1 := X1.c1)
        | (go_at_call 19; refine (set_has D A n c ps A' k c' xs _ P1 I1).mono ?_; rintro e w2 ⟨rfl, hb⟩; rw [HV.out, HE.out]; replace hB := below_step hB hb; replace P1 := P1.step hb; replace I1 := I1.step hb; replace X1 := X1.step hb; clear x0 x1 hb; have x0 := X1.c0; have x1 := X1.c1))
      have hnn : n ≤ 400 := by have h1 := (valid_elim HS.out.1).1.2.2; have h2 := P1.len; omega
      have HPN := Lib.hid P1.len
      generalize hw2 : w2 = w4 at *
      clear hw2
      go_loopw [7, 34] (fun u v wr => ∃ (i : Nat) (b : Bool), i ≤ n ∧ v = .int .i64 i ∧ u = .bool b ∧ Hid (b = (ps.take i).any fun p => hasP xs p.els) ∧ Below w4.heap.size w4 wr) (fun _ v _ => n - (intOf v).toNat)
      case atStart => exact ⟨0, false, Nat.zero_le _, rfl, rfl, Lib.hid rfl, Below.refl _ _⟩
      case round =>
        obtain ⟨i, b, hi, rfl, rfl, HG, hbr⟩ := hrel
        by_cases hlt : i < n
        · obtain ⟨b1, off1, p, rfl, hblt, hpj, hmem, hcell, hCp⟩ := (P1.step hbr).at hlt
          have HPJ := Lib.hid hpj
          have HCP := Lib.hid ((valid_elim HS.out.1).2 p hmem)
          obtain ⟨pA, pn, pc, pels⟩ := p
          simp only at hcell hCp HCP
          have hq1 : (i : Int) < n := by omega
          have HPL := Lib.hid hCp.len
          have hps := hCp.small
          have I2 := I1.step hbr
          clear hmem hpj
          go_wp2
          generalize hw2 : wr = w5 at *
          clear hw2
          go_loopw [10, 40] (fun u v wr => ∃ (j : Nat) (a : Bool), j ≤ pn ∧ v = .int .i64 j ∧ u = .bool a ∧ Hid (a = (pels.take j).all fun e => hVal e.q e.M e.xs e.K xs) ∧ Below w5.heap.size w5 wr) (fun _ v _ => pn - (intOf v).toNat)
          case atStart => exact ⟨0, true, Nat.zero_le _, rfl, rfl, Lib.hid rfl, Below.refl _ _⟩
          case round =>
            obtain ⟨j, a, hj, rfl, rfl, HA, hbs⟩ := hrel
            by_cases hlt2 : j < pn
            · obtain ⟨b2, off2, e, rfl, hblt2, hej, hmem, hcs, hin⟩ := (hCp.step hbs).at hlt2
              obtain ⟨y0, y1, y2, y3⟩ := hcs
              have HEJ := Lib.hid hej
              have hgd := conds_elim HCP.out.2 e hmem
              obtain ⟨eq, eM, eA, en, ec, eK, exs⟩ := e
              simp only at y0 y1 y2 y3 hin hgd
              have hq2 : (j : Int) < pn := by omega
              have b5 := below_alloc wr (.cells #[.int .i64 eq, .int .i64 eM, .slice eA en ec, .int .i64 eK] 55)
              have z1 := hin.step b5
              have Z1 := CBox.new wr eq eM eA en ec eK
              have z2 := (I2.step hbs).step b5
              have hbr1 := hbs.trans (b5.mono hbs.size)
              have hnn2 : en = k := by have h1 := hgd.2; have h2 := HD.out; omega
              have hlx : exs.length = en := hin.len
              obtain ⟨hh, hk, h12, hgo, hkd⟩ := has_cond (show validC eq eM exs eK = true from hgd.1) (show exs.length = xs.length by have := HXL.out; omega) HS.out.2.2
              rw [hlx] at hh h12 hgo
              have HH := Lib.hid hh
              have HK := Lib.hid hk
              have H12 := Lib.hid h12
              have HGO := Lib.hid hgo
              have HKD := Lib.hid hkd
              have HNN := Lib.hid (Nat.le_of_eq hnn2)
              have HAT := Lib.hid (all_take (f := fun e : CEl => hVal e.q e.M e.xs e.K xs) HEJ.out)
              clear hh hk h12 hgo hkd hgd hnn2 hlx b5 hmem hej hin
              have u0 := Z1.c0
              have u1 := Z1.c1
              have u2 := Z1.c2
              have u3 := Z1.c3
              cases a
              · go_wp2
                go_roundw
                case rel => exact ⟨j + 1, false, by omega, by go_num, rfl, Lib.hid (by rw [HAT.out, ← HA.out]; rfl), hbr1⟩
                case measure => simp [intOf]; omega
              · obtain ⟨hvv, hhv⟩ : ∃ b, hVal eq eM exs eK xs = b := ⟨_, rfl⟩
                have HHV := Lib.hid hhv
                clear hhv
                go_wp2_with (go_at_call 37; refine (ref_is _ _ _ _ _ _ exs _ _ _ xs _ z1 z2 HK.out H12.out HNN.out HGO.out HKD.out).mono ?_; rintro e w1 ⟨rfl, hb⟩; rw [HH.out, HHV.out]; replace hbr1 := hbr1.trans (hb.mono hbr1.size))
                go_roundw
                case rel => exact ⟨j + 1, hvv, by omega, by go_num, rfl, Lib.hid (by rw [HAT.out, ← HA.out, HHV.out]; rfl), hbr1⟩
                case measure => simp [intOf]; omega
            · have hge : ¬ ((j : Int) < pn) := by omega
              have HP := Lib.hid (show a = hasP xs pels by
                rw [HA.out, List.take_of_length_le (by have := HPL.out; omega)]
                rfl)
              have HAT := Lib.hid (any_take (f := fun p : PEl => hasP xs p.els) HPJ.out)
              cases b
              · go_wp2
                go_roundw
                case rel => exact ⟨i + 1, a, by omega, by go_num, rfl, Lib.hid (show a = (ps.take (i + 1)).any (fun p => hasP xs p.els) by rw [HAT.out, ← show false = _ from HG.out, HP.out]; rfl), hbr.trans (hbs.mono hbr.size)⟩
                case measure => simp [intOf]; omega
              · go_wp2
                go_roundw
                case rel => exact ⟨i + 1, true, by omega, by go_num, rfl, Lib.hid (show true = (ps.take (i + 1)).any (fun p => hasP xs p.els) by rw [HAT.out, ← show true = _ from HG.out]; rfl), hbr.trans (hbs.mono hbr.size)⟩
                case measure => simp [intOf]; omega
        · have hge : ¬ ((i : Int) < n) := by omega
          have g1 : (v == b) = true := by
            rw [HR.out, HG.out, List.take_of_length_le (by have := HPN.out; omega)]
            unfold hasS
            simp
          have hB2 := below_step hB hbr
          go_wp2_with (go_at_call 11; refine (awake4 _).mono ?_; rintro e w9 ⟨rfl, hb⟩; replace hB2 := below_step hB2 hb)
          go_ret
          exact ⟨rfl, hB2⟩
    · have h0' : (er != 0) = true := by simpa using h0
      have h0'' : (er == 0) = false := by simpa using h0
      obtain rfl : v = false := by rw [← hv]; exact s_false (by rw [her]; exact h0)
      clear hv her
      go_wp2_with (first
        | (go_at_call 10; refine (few_one _ 1 (by simp) P1).mono ?_; rintro e w1 ⟨rfl, hb⟩; rw [HF.out]; replace hB := below_step hB hb; replace P1 := P1.step hb; replace I1 := I1.step hb; replace X1 := X1.step hb; clear x0 x1 hb; have x0 := X1.c0; have x1 := X1.c1)
        | (go_at_call 19; refine (set_has D A n c ps A' k c' xs _ P1 I1).mono ?_; rintro e w2 ⟨rfl, hb⟩; rw [HV.out, HE.out]; replace hB := below_step hB hb; replace P1 := P1.step hb; replace I1 := I1.step hb; replace X1 := X1.step hb; clear x0 x1 hb; have x0 := X1.c0; have x1 := X1.c1)
        | (go_at_call 11; refine (awake4 _).mono ?_; rintro e w9 ⟨rfl, hb⟩; replace hB := below_step hB hb))
      go_ret
      exact ⟨rfl, hB⟩

set_option maxRecDepth 100000 in
theorem lifted (os : Os) (started : os.Started) (H : Type) (enc : TypeId × Value → H) :
    ReturnsInHanded {} Try.checked os 9 .any (Rows.setHoldsSpec.pre6 enc Try.prog Try.f9 Rows.setHoldsRow.domain false) (Rows.setHoldsSpec.post enc Try.prog Try.f9 false true false false) := by
  refine returnsInHanded_of_change_sized (C := Try.checked) own started (by kernel_rfl) Try.func9
    (ChangeSpec.witness6 (enc := enc) (C := Try.checked) false ⟨#[], #[.agg #[.int .i64 0, .slice none 0 0], .slice none 0 0], []⟩ 8 (by kernel_rfl) (by kernel_rfl) (by kernel_rfl) (by kernel_rfl)) ?_
  intro W base args ds gs before hval0 hW _ hsz0 _
  have hval : ∀ (j : Nat) t v, Try.f9.params[j]? = some t → args[j]? = some v → Value.okWide Try.prog W .any base t v := hval0
  have hW' := hW
  have hlt := hW.lt
  obtain ⟨p, q, hA0, hV, rfl, hfz, hnd⟩ := hW
  have hA : DataW.TrodAll enc Try.prog W 0 (fun _ => true) true Try.f9.params.toList args.toList ds p := hA0
  have hsz : (DataW.weightsEach Try.prog (Try.f9.params.toList ++ []) (ds ++ gs)).all (· ≤ reachBytes) = true := hsz0
  rw [Try.params9] at hA hval hsz
  obtain ⟨rfl, rfl⟩ := trodVars_none hV
  obtain ⟨v0, vs0, d0, ds0, p0, q0, hargs, rfl, rfl, h0, r0⟩ := trodAll_cons hA
  obtain ⟨v1, vs1, d1, ds1, p1, q1, rfl, rfl, rfl, h1, r1⟩ := trodAll_cons r0
  obtain ⟨rfl, rfl, rfl⟩ := trodAll_nil r1
  obtain rfl : args = #[v0, v1] := by cases args; simp_all
  obtain ⟨z0, hsz⟩ := weights_cons hsz
  obtain ⟨z1, hsz⟩ := weights_cons hsz
  have hpost : ∀ W' : World, Below W.heap.size W W' → ∃ v, Ending.returned (.bool true) = .returned v ∧ Rows.setHoldsSpec.post enc Try.prog Try.f9 false true false false W #[v0, v1] v W' :=
    fun W' hb => ⟨_, rfl, law_post laidOut (of_decide_eq_true (by kernel_rfl)) rfl rfl Try.underlying4 rfl hW' hb⟩
  obtain ⟨D0, A0, n0, c0, ps0, rfl, I0, k0⟩ := set_of (hval 0 24 v0 rfl rfl) (fun x hx => hlt x (by simp only [List.mem_append]; simp [hx])) z0 h0
  obtain ⟨A1, n1, c1, xs1, rfl, I1⟩ := ints_of Try.underlying33 Try.underlying3 (by kernel_rfl) (by kernel_rfl) (hval 1 33 v1 rfl rfl) (fun x hx => hlt x (by simp only [List.mem_append]; simp [hx])) z1 h1
  refine (walk D0 A0 n0 c0 ps0 I0 k0 A1 n1 c1 xs1 I1 (w := W)).mono fun e W' ⟨he, hb⟩ => ?_
  subst he
  exact hpost W' hb

theorem proved : Rows.SetHoldsSaid :=
  OpenClaim.holds_of_wide 9 Try.f9 rfl rfl rfl rfl rfl rfl rfl ⟨rfl, rfl, rfl, rfl, rfl⟩ rfl rfl rfl rfl rfl (by kernel_rfl) Try.func9 (by kernel_rfl)
    (of_decide_eq_true (by kernel_rfl)) (by unfold Func.isWrapper; first | (rw [if_pos (by decide +kernel)]; kernel_rfl) | (rw [if_neg (by decide +kernel)]; exact ⟨rfl, rfl⟩))
    (fun os started H enc _ => lifted os started H enc)
#print axioms proved
end Go.Proofs.Ytkgnlloioaobiaa.setHolds
