/-
  For all conditions c, CondNegates returns true and leaves memory as it was. No condition.
-/
import Derived.Test.YtbjkijifpikhkaaRows
import Derived.Test.YtbjkijifpikhkaaKit
import Derived.Test.YtbjkijifpikhkaaLinKit
import Derived.Test.YtbjkijifpikhkaaCondKit
import Derived.Test.YtbjkijifpikhkaaCondAwake
import Derived.Test.YtbjkijifpikhkaaCondArgs
import Derived.Test.YtbjkijifpikhkaaCondNeg
import Derived.Test.YtbjkijifpikhkaaRefNegGe
import Derived.Test.YtbjkijifpikhkaaRefNegEq
import Derived.Test.YtbjkijifpikhkaaRefNegDv
import Derived.Deep.RegionHeld3
set_option linter.unusedVariables false
namespace Go.Proofs.Ytbjkijifpikhkaa.condNegates
open Go.ChangeShapes Go.WideShapes Go.ChangeAt Go.RowKit

theorem rneg_bad (q M : Int) (A : Option Addr) (n c : Nat) (K : Int) (xs : List Int) (hv : validC q M xs K = false) (w : World) (hI : IntsAt w A n xs) :
    Calls Try.prog 19 #[condV q M A n c K] w fun e w' => NegRet w e w' n [] 1 := by
  have hB := below_alloc w (.cells #[.int .i64 q, .int .i64 M, .slice A n c, .int .i64 K] 26)
  have h1 := hI.step hB
  have HV := Lib.hid hv
  clear hv
  go_enter Try.func19, Try.ntmps19
  go_wp2_with (go_at_call 13; refine (ref_cvalid _ _ _ _ _ _ xs _ h1).mono ?_; rintro e w1 ⟨rfl, hb⟩; rw [HV.out]; replace hB := below_step hB hb)
  go_ret2
  exact ⟨_, [], rfl, CL.nil _ _, rfl, (fun e h => nomatch h), hB⟩

/-- The reference's Negate. -/
theorem ref_neg (q M : Int) (A : Option Addr) (n c : Nat) (K : Int) (xs : List Int) (w : World) (hI : IntsAt w A n xs) :
    Calls Try.prog 19 #[condV q M A n c K] w fun e w' => NegRet w e w' n (negL q M n xs K) (negE q M n xs K) := by
  unfold negL negE
  cases hv : validC q M xs K
  · exact rneg_bad q M A n c K xs hv w hI
  · have hk := (validC_kind hv).2
    rcases hk with ⟨rfl, _⟩ | ⟨rfl, _⟩ | ⟨rfl, _⟩
    · exact rneg_ge M A n c K xs hv w hI
    · exact rneg_eq M A n c K xs hv w hI
    · exact rneg_dv M A n c K xs hv w hI


set_option maxHeartbeats 8000000 in
set_option maxRecDepth 100000 in
theorem walk (w : World) (q M : Int) (A : Option Addr) (n c : Nat) (K : Int) (xs : List Int) (h : IntsAt w A n xs) (_ : -9223372036854775808 ≤ q ∧ q ≤ 9223372036854775807) (_ : -9223372036854775808 ≤ M ∧ M ≤ 9223372036854775807) (_ : -9223372036854775808 ≤ K ∧ K ≤ 9223372036854775807) :
    Calls Try.prog 5 #[condV q M A n c K] w fun e w' => e = .returned (.bool true) ∧ Below w.heap.size w w' := by
  have hB := below_alloc w (.cells #[.int .i64 q, .int .i64 M, .slice A n c, .int .i64 K] 26)
  have h1 := h.step hB
  have B1 := CBox.new w q M A n c K
  have HN := Lib.hid (fun W (h : IntsAt W A n xs) => cond_neg q M A n c K xs W h)
  have HR := Lib.hid (fun W (h : IntsAt W A n xs) => ref_neg q M A n c K xs W h)
  obtain ⟨s, hs⟩ : ∃ r, negE q M n xs K = r := ⟨_, rfl⟩
  obtain ⟨out, hout⟩ : ∃ r, negL q M n xs K = r := ⟨_, rfl⟩
  rw [hs, hout] at HN HR
  clear h hs hout
  have g3 : (s == s) = true := by simp
  have g4 : (s != s) = false := by simp
  go_enter Try.func5, Try.ntmps5
  go_wp2_with (first
    | (go_at_call 18; refine (HN.out _ h1).mono ?_; rintro e w2 ⟨u, els, rfl, hL, hd, hn, hb⟩; obtain ⟨A2, k2, rfl⟩ := hL.slice; replace h1 := h1.step hb; replace hB := below_step hB hb; replace B1 := B1.step hb; have c0 := B1.c0; have c1 := B1.c1; have c2 := B1.c2; have c3 := B1.c3)
    | (go_at_call 19; refine (HR.out _ h1).mono ?_; rintro e w3 ⟨u', els', rfl, hL', hd', hn', hb⟩; obtain ⟨A3, k3, rfl⟩ := hL'.slice; replace hB := below_step hB hb; replace hL := hL.step hb; have hlen : els'.length = els.length := (by have := congrArg List.length (hd.trans hd'.symm); simp only [List.length_map] at this; exact this.symm); rw [hlen]))
  have C0 := hL.conds.2
  have C1 := hL'.conds.2
  rw [hlen] at C1
  have HD := Lib.hid (And.intro hd hd')
  obtain ⟨m, hm⟩ : ∃ m, els.length = m := ⟨_, rfl⟩
  rw [hm] at C0 C1 ⊢
  have hsm := C0.small
  clear hd hn hd' hn' hL hL' hlen hm c0 c1 c2 c3 B1 h1 hb
  go_loopw [30] (fun v wr => ∃ i : Nat, i ≤ m ∧ v = .int .i64 i ∧ Below w3.heap.size w3 wr) (fun v _ => m - (intOf v).toNat)
  case atStart => exact ⟨0, Nat.zero_le _, rfl, Below.refl _ _⟩
  case round =>
    obtain ⟨i, hi, rfl, hbr⟩ := hrel
    by_cases hlt : i < m
    · have hbd := hbr.drew
      obtain ⟨b, off, e, hA2, hblt, hej, hmem, hcs, hin⟩ := (C0.step hbr).at hlt
      obtain ⟨b', off', e', hA3, hblt', hej', hmem', hcs', hin'⟩ := (C1.step hbr).at hlt
      have hde : e.d = e'.d := by
        have h7 : (els.map CEl.d)[i]? = (els'.map CEl.d)[i]? := by rw [HD.out.1, HD.out.2]
        rw [List.getElem?_map, List.getElem?_map, hej, hej'] at h7
        simpa using h7
      obtain ⟨eq, eM, eA, en, ec, eK, exs⟩ := e
      obtain ⟨eq', eM', eA', en', ec', eK', exs'⟩ := e'
      simp only [CEl.d, CD.mk.injEq] at hde
      obtain ⟨rfl, rfl, rfl, rfl⟩ := hde
      obtain ⟨x0, x1, x2, x3⟩ := hcs
      obtain ⟨y0, y1, y2, y3⟩ := hcs'
      simp only at x0 x1 x2 x3 y0 y1 y2 y3 hin hin'
      subst hA2 hA3
      have hq1 : (i : Int) < m := by omega
      replace hin := hin.step (Below.refl _ wr).drew
      replace hin' := hin'.step (Below.refl _ wr).drew
      clear hej hej' hmem hmem'
      go_wp2
      go_region_held3 (fun W => W.cell? ⟨b, off + i * 4, none⟩ = some (.int .i64 eq) ∧ W.cell? ⟨b, off + i * 4 + 1, none⟩ = some (.int .i64 eM) ∧ W.cell? ⟨b, off + i * 4 + 2, none⟩ = some (.slice eA en ec) ∧ W.cell? ⟨b, off + i * 4 + 3, none⟩ = some (.int .i64 eK) ∧ W.cell? ⟨b', off' + i * 4, none⟩ = some (.int .i64 eq) ∧ W.cell? ⟨b', off' + i * 4 + 1, none⟩ = some (.int .i64 eM) ∧ W.cell? ⟨b', off' + i * 4 + 2, none⟩ = some (.slice eA' en' ec') ∧ W.cell? ⟨b', off' + i * 4 + 3, none⟩ = some (.int .i64 eK)) (first | exact ⟨x0, x1, x2, x3, y0, y1, y2, y3⟩ | exact ⟨z0, z1, z2, z3, z4, z5, z6, z7⟩ | go_keep)
        (first
          | (go_at_call 17; refine (cond_same _ _ _ _ _ _ exs _ _ _ _ _ _ exs _ hin hin').mono ?_; rintro e w4 ⟨rfl, hb⟩; rw [sameC_self]; have hbe := (Below.refl wr.heap.size wr).drew.trans hb; have z0 := (hbe.cell (p := ⟨b, off + i * 4, none⟩) hblt).trans x0; have z1 := (hbe.cell (p := ⟨b, off + i * 4 + 1, none⟩) hblt).trans x1; have z2 := (hbe.cell (p := ⟨b, off + i * 4 + 2, none⟩) hblt).trans x2; have z3 := (hbe.cell (p := ⟨b, off + i * 4 + 3, none⟩) hblt).trans x3; have z4 := (hbe.cell (p := ⟨b', off' + i * 4, none⟩) hblt').trans y0; have z5 := (hbe.cell (p := ⟨b', off' + i * 4 + 1, none⟩) hblt').trans y1; have z6 := (hbe.cell (p := ⟨b', off' + i * 4 + 2, none⟩) hblt').trans y2; have z7 := (hbe.cell (p := ⟨b', off' + i * 4 + 3, none⟩) hblt').trans y3; replace hbd := hbd.trans (hb.mono hbd.size)))
      all_goals
        go_wp2
        go_roundw
        case rel => exact ⟨i + 1, by omega, by go_num, hbd⟩
        case measure => simp [intOf]; omega
    · have hge : ¬ ((i : Int) < m) := by omega
      replace hB := below_step hB hbr
      go_wp2_with (go_at_call 14; refine (awake3 _).mono ?_; rintro e w5 ⟨rfl, hb⟩; replace hB := below_step hB hb)
      go_ret
      exact ⟨rfl, hB⟩

set_option maxRecDepth 100000 in
theorem lifted (os : Os) (started : os.Started) (H : Type) (enc : TypeId × Value → H) :
    ReturnsInHanded {} Try.checked os 5 .any (Rows.condNegatesSpec.pre6 enc Try.prog Try.f5 Rows.condNegatesRow.domain false) (Rows.condNegatesSpec.post enc Try.prog Try.f5 false true false false) := by
  refine returnsInHanded_of_change_sized (C := Try.checked) own started (by kernel_rfl) Try.func5
    (ChangeSpec.witness6 (enc := enc) (C := Try.checked) false ⟨#[], #[.agg #[.int .i64 0, .int .i64 0, .slice none 0 0, .int .i64 0]], []⟩ 8 (by kernel_rfl) (by kernel_rfl) (by kernel_rfl) (by kernel_rfl)) ?_
  intro W base args ds gs before hval0 hW _ hsz0 _
  have hval : ∀ (j : Nat) t v, Try.f5.params[j]? = some t → args[j]? = some v → Value.okWide Try.prog W .any base t v := hval0
  have hW' := hW
  have hlt := hW.lt
  obtain ⟨p, q, hA0, hV, rfl, hfz, hnd⟩ := hW
  have hA : DataW.TrodAll enc Try.prog W 0 (fun _ => true) true Try.f5.params.toList args.toList ds p := hA0
  have hsz : (DataW.weightsEach Try.prog (Try.f5.params.toList ++ []) (ds ++ gs)).all (· ≤ reachBytes) = true := hsz0
  rw [Try.params5] at hA hval hsz
  obtain ⟨rfl, rfl⟩ := trodVars_none hV
  obtain ⟨v0, vs0, d0, ds0, p0, q0, hargs, rfl, rfl, h0, r0⟩ := trodAll_cons hA
  obtain ⟨rfl, rfl, rfl⟩ := trodAll_nil r0
  obtain rfl : args = #[v0] := by cases args; simp_all
  obtain ⟨z0, hsz⟩ := weights_cons hsz
  have hpost : ∀ W' : World, Below W.heap.size W W' → ∃ v, Ending.returned (.bool true) = .returned v ∧ Rows.condNegatesSpec.post enc Try.prog Try.f5 false true false false W #[v0] v W' :=
    fun W' hb => ⟨_, rfl, law_post laidOut (of_decide_eq_true (by kernel_rfl)) rfl rfl Try.underlying4 rfl hW' hb⟩
  obtain ⟨q0, M0, A0, n0, c0, K0, xs0, rfl, I0, C0, kq0, kM0, k0⟩ := cond_ofC (hval 0 26 v0 rfl rfl) (fun x hx => hlt x (by simp only [List.mem_append]; simp [hx])) z0 h0
  refine (walk q0 M0 A0 n0 c0 K0 xs0 I0 kq0 kM0 k0 (w := W)).mono fun e W' ⟨he, hb⟩ => ?_
  subst he
  exact hpost W' hb

theorem proved : Rows.CondNegatesSaid :=
  OpenClaim.holds_of_wide 5 Try.f5 rfl rfl rfl rfl rfl rfl rfl ⟨rfl, rfl, rfl, rfl, rfl⟩ rfl rfl rfl rfl rfl (by kernel_rfl) Try.func5 (by kernel_rfl)
    (of_decide_eq_true (by kernel_rfl)) (by unfold Func.isWrapper; first | (rw [if_pos (by decide +kernel)]; kernel_rfl) | (rw [if_neg (by decide +kernel)]; exact ⟨rfl, rfl⟩))
    (fun os started H enc _ => lifted os started H enc)
#print axioms proved
end Go.Proofs.Ytbjkijifpikhkaa.condNegates
