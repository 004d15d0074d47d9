/-
  For all sets a and b, points x and numbers i and v of the law's bounds, SetPoints returns true and leaves memory as it was. No condition.
-/
import Derived.Test.YtkgnlloioaobiaaGreatRows
import Derived.Test.YtkgnlloioaobiaaGreatPc
import Derived.Test.YtkgnlloioaobiaaGreatPd
import Derived.Test.YtkgnlloioaobiaaGreatPe
import Derived.Test.YtkgnlloioaobiaaGreatPf
set_option linter.unusedVariables false
set_option linter.unusedSimpArgs false
namespace Go.Proofs.YtkgnlloioaobiaaGreat.setPoints
open Go.ChangeShapes Go.WideShapes Go.ChangeAt Go.RowKit


set_option maxRecDepth 100000 in
set_option maxHeartbeats 40000000 in
theorem walk_bad (w : World) (D : Int) (A : Option Addr) (n c : Nat) (ps : List PEl) (h : PiecesAt w A n ps) (D' : Int) (A' : Option Addr) (n' c' : Nat) (ps' : List PEl) (h' : PiecesAt w A' n' ps') (O : Option Addr) (k oc : Nat) (xs : List Int) (hI : IntsAt w O k xs) (i v : Int)
    (hbad : ¬ (fewB 12 12 [⟨D, A, n, c, ps⟩, ⟨D', A', n', c', ps'⟩] = true ∧ sErr D ps xs = 0 ∧ sErr D' ps' xs = 0)) :
    Calls Tryz.prog 7 #[setV D A n c, setV D' A' n' c', .slice O k oc, .int .i64 i, .int .i64 v] w fun e w' => e = .returned (.bool true) ∧ Below w.heap.size w w' := by
  have hB := below_step (below_alloc w (.cells #[.int .i64 D, .slice A n c] 24)) (below_alloc _ (.cells #[.int .i64 D', .slice A' n' c'] 24))
  have P1 := h.step hB
  have P2 := h'.step hB
  have I1 := hI.step hB
  have X1 := (SetBox.new w D A n c).alloc (.cells #[.int .i64 D', .slice A' n' c'] 24)
  have X2 := SetBox.new (w.alloc (.cells #[.int .i64 D, .slice A n c] 24)) D' A' n' c'
  rw [World.size_alloc] at X2
  obtain ⟨fw, hfw⟩ : ∃ fw, fewB 12 12 [⟨D, A, n, c, ps⟩, ⟨D', A', n', c', ps'⟩] = fw := ⟨_, rfl⟩
  obtain ⟨er, her⟩ : ∃ er, sErr D ps xs = er := ⟨_, rfl⟩
  obtain ⟨fr, hfr⟩ : ∃ fr, sErr D' ps' xs = fr := ⟨_, rfl⟩
  rw [hfw, her, hfr] at hbad
  have HF := Lib.hid hfw
  have HE := Lib.hid her
  have HG := Lib.hid hfr
  obtain ⟨pv, hpv⟩ : ∃ pv, sVal D ps xs = pv := ⟨_, rfl⟩
  obtain ⟨qv, hqv⟩ : ∃ qv, sVal D' ps' xs = qv := ⟨_, rfl⟩
  have HV := Lib.hid hpv
  have HW := Lib.hid hqv
  have x0 := X1.c0
  have x1 := X1.c1
  have y0 := X2.c0
  have y1 := X2.c1
  have T1 : True := trivial
  clear h h' hI hfw her hfr hpv hqv
  go_enter Tryz.func7, Tryz.ntmps7
  cases fw
  · clear hbad
    go_wp2_with (first
      | (go_at_call 9; refine (few_two _ 2 (by simp) P1 P2).mono ?_; rintro e w1 ⟨rfl, hx⟩; rw [HF.out]; replace hB := below_step hB hx; replace P1 := P1.step hx; replace P2 := P2.step hx; replace I1 := I1.step hx; replace X1 := X1.step hx; replace X2 := X2.step hx; clear x0 x1 y0 y1; have x0 := X1.c0; have x1 := X1.c1; have y0 := X2.c0; have y1 := X2.c1; clear hx)
      | (go_at_call 10; refine (awake4 _).mono ?_; rintro e w9 ⟨rfl, hb⟩; replace hB := below_step hB hb))
    go_ret
    exact ⟨rfl, hB⟩
  · by_cases h0 : er = 0
    · have h1 : ¬ fr = 0 := fun h => hbad ⟨rfl, h0, h⟩
      subst h0
      have q1 : (fr == 0) = false := by simpa using h1
      have q2 : (fr != 0) = true := by simpa using h1
      clear hbad h1
      go_wp2_with (first
        | (go_at_call 9; refine (few_two _ 2 (by simp) P1 P2).mono ?_; rintro e w1 ⟨rfl, hx⟩; rw [HF.out]; replace hB := below_step hB hx; replace P1 := P1.step hx; replace P2 := P2.step hx; replace I1 := I1.step hx; replace X1 := X1.step hx; replace X2 := X2.step hx; clear x0 x1 y0 y1; have x0 := X1.c0; have x1 := X1.c1; have y0 := X2.c0; have y1 := X2.c1; clear hx)
        | (go_at_call 24; have t1 := T1; clear T1 t1; refine (set_has D A n c ps O k oc xs _ P1 I1).mono ?_; rintro e w3 ⟨rfl, hx⟩; rw [HV.out, HE.out]; replace hB := below_step hB hx; replace P1 := P1.step hx; replace P2 := P2.step hx; replace I1 := I1.step hx; replace X1 := X1.step hx; replace X2 := X2.step hx; clear x0 x1 y0 y1; have x0 := X1.c0; have x1 := X1.c1; have y0 := X2.c0; have y1 := X2.c1; clear hx)
        | (go_at_call 24; refine (set_has D' A' n' c' ps' O k oc xs _ P2 I1).mono ?_; rintro e w3 ⟨rfl, hx⟩; rw [HW.out, HG.out]; replace hB := below_step hB hx; replace P1 := P1.step hx; replace P2 := P2.step hx; replace I1 := I1.step hx; replace X1 := X1.step hx; replace X2 := X2.step hx; clear x0 x1 y0 y1; have x0 := X1.c0; have x1 := X1.c1; have y0 := X2.c0; have y1 := X2.c1; clear hx)
        | (go_at_call 10; refine (awake4 _).mono ?_; rintro e w9 ⟨rfl, hb⟩; replace hB := below_step hB hb))
      go_ret
      exact ⟨rfl, hB⟩
    · have q1 : (er == 0) = false := by simpa using h0
      have q2 : (er != 0) = true := by simpa using h0
      clear hbad h0
      go_wp2_with (first
        | (go_at_call 9; refine (few_two _ 2 (by simp) P1 P2).mono ?_; rintro e w1 ⟨rfl, hx⟩; rw [HF.out]; replace hB := below_step hB hx; replace P1 := P1.step hx; replace P2 := P2.step hx; replace I1 := I1.step hx; replace X1 := X1.step hx; replace X2 := X2.step hx; clear x0 x1 y0 y1; have x0 := X1.c0; have x1 := X1.c1; have y0 := X2.c0; have y1 := X2.c1; clear hx)
        | (go_at_call 24; have t1 := T1; clear T1 t1; refine (set_has D A n c ps O k oc xs _ P1 I1).mono ?_; rintro e w3 ⟨rfl, hx⟩; rw [HV.out, HE.out]; replace hB := below_step hB hx; replace P1 := P1.step hx; replace P2 := P2.step hx; replace I1 := I1.step hx; replace X1 := X1.step hx; replace X2 := X2.step hx; clear x0 x1 y0 y1; have x0 := X1.c0; have x1 := X1.c1; have y0 := X2.c0; have y1 := X2.c1; clear hx)
        | (go_at_call 24; refine (set_has D' A' n' c' ps' O k oc xs _ P2 I1).mono ?_; rintro e w3 ⟨rfl, hx⟩; rw [HW.out, HG.out]; replace hB := below_step hB hx; replace P1 := P1.step hx; replace P2 := P2.step hx; replace I1 := I1.step hx; replace X1 := X1.step hx; replace X2 := X2.step hx; clear x0 x1 y0 y1; have x0 := X1.c0; have x1 := X1.c1; have y0 := X2.c0; have y1 := X2.c1; clear hx)
        | (go_at_call 10; refine (awake4 _).mono ?_; rintro e w9 ⟨rfl, hb⟩; replace hB := below_step hB hb))
      go_ret
      exact ⟨rfl, hB⟩

theorem walk (w : World) (D : Int) (A : Option Addr) (n c : Nat) (ps : List PEl) (h : PiecesAt w A n ps) (hc : (A = none → c = 0) ∧ ∀ p ∈ ps, PieceC p) (_ : -9223372036854775808 ≤ D ∧ D ≤ 9223372036854775807) (D' : Int) (A' : Option Addr) (n' c' : Nat) (ps' : List PEl) (h' : PiecesAt w A' n' ps') (hc' : (A' = none → c' = 0) ∧ ∀ p ∈ ps', PieceC p) (_ : -9223372036854775808 ≤ D' ∧ D' ≤ 9223372036854775807) (O : Option Addr) (k oc : Nat) (xs : List Int) (hI : IntsAt w O k xs) (hO : CapAt w.heap.size O k oc) (i : Int) (_ : -9223372036854775808 ≤ i) (_ : i ≤ 9223372036854775807) (v : Int) (_ : -9223372036854775808 ≤ v) (_ : v ≤ 9223372036854775807) :
    Calls Tryz.prog 7 #[setV D A n c, setV D' A' n' c', .slice O k oc, .int .i64 i, .int .i64 v] w fun e w' => e = .returned (.bool true) ∧ Below w.heap.size w w' := by
  by_cases hg : fewB 12 12 [⟨D, A, n, c, ps⟩, ⟨D', A', n', c', ps'⟩] = true ∧ sErr D ps xs = 0 ∧ sErr D' ps' xs = 0
  · obtain ⟨hf, h0, h1⟩ := hg
    obtain ⟨hvs, hl, hpt⟩ := s_elim h0
    obtain ⟨hvt, hl', _⟩ := s_elim h1
    subst hl
    subst hl'
    cases hp : hasS xs ps <;> cases hq : hasS xs ps'
    · exact walk_ff w _ A n c ps h hc.2 A' n' c' ps' h' hc'.2 O k oc xs hI hO i v hf hvs hvt rfl hpt hp hq
    · exact walk_ft w _ A n c ps h hc.2 A' n' c' ps' h' hc'.2 O k oc xs hI hO i v hf hvs hvt rfl hpt hp hq
    · exact walk_tf w _ A n c ps h hc.2 A' n' c' ps' h' hc'.2 O k oc xs hI hO i v hf hvs hvt rfl hpt hp hq
    · exact walk_tt w _ A n c ps h hc.2 A' n' c' ps' h' hc'.2 O k oc xs hI hO i v hf hvs hvt rfl hpt hp hq
  · exact walk_bad w D A n c ps h D' A' n' c' ps' h' O k oc xs hI i v hg

set_option maxRecDepth 100000 in
theorem lifted (os : Os) (started : os.Started) (H : Type) (enc : TypeId × Value → H) :
    ReturnsInHanded {} Tryz.checked os 7 .any (Rows.setPointsSpec.pre6 enc Tryz.prog Tryz.f7 Rows.setPointsRow.domain false) (Rows.setPointsSpec.post enc Tryz.prog Tryz.f7 false true false false) := by
  refine returnsInHanded_of_change_sized (C := Tryz.checked) own started (by kernel_rfl) Tryz.func7
    (ChangeSpec.witness6 (enc := enc) (C := Tryz.checked) false ⟨#[], #[.agg #[.int .i64 0, .slice none 0 0], .agg #[.int .i64 0, .slice none 0 0], .slice none 0 0, .int .i64 0, .int .i64 0], []⟩ 8 (by kernel_rfl) (by kernel_rfl) (by kernel_rfl) (by kernel_rfl)) ?_
  intro W base args ds gs before hval0 hW _ hsz0 _
  have hval : ∀ (j : Nat) t v, Tryz.f7.params[j]? = some t → args[j]? = some v → Value.okWide Tryz.prog W .any base t v := hval0
  have hW' := hW
  have hlt := hW.lt
  obtain ⟨p, q, hA0, hV, rfl, hfz, hnd⟩ := hW
  have hA : DataW.TrodAll enc Tryz.prog W 0 (fun _ => true) true Tryz.f7.params.toList args.toList ds p := hA0
  have hsz : (DataW.weightsEach Tryz.prog (Tryz.f7.params.toList ++ []) (ds ++ gs)).all (· ≤ reachBytes) = true := hsz0
  rw [Tryz.params7] at hA hval hsz
  obtain ⟨rfl, rfl⟩ := trodVars_none hV
  obtain ⟨v0, vs0, d0, ds0, p0, q0, hargs, rfl, rfl, h0, r0⟩ := trodAll_cons hA
  obtain ⟨v1, vs1, d1, ds1, p1, q1, rfl, rfl, rfl, h1, r1⟩ := trodAll_cons r0
  obtain ⟨v2, vs2, d2, ds2, p2, q2, rfl, rfl, rfl, h2, r2⟩ := trodAll_cons r1
  obtain ⟨v3, vs3, d3, ds3, p3, q3, rfl, rfl, rfl, h3, r3⟩ := trodAll_cons r2
  obtain ⟨v4, vs4, d4, ds4, p4, q4, rfl, rfl, rfl, h4, r4⟩ := trodAll_cons r3
  obtain ⟨rfl, rfl, rfl⟩ := trodAll_nil r4
  obtain rfl : args = #[v0, v1, v2, v3, v4] := by cases args; simp_all
  obtain ⟨z0, hsz⟩ := weights_cons hsz
  obtain ⟨z1, hsz⟩ := weights_cons hsz
  obtain ⟨z2, hsz⟩ := weights_cons hsz
  obtain ⟨z3, hsz⟩ := weights_cons hsz
  obtain ⟨z4, hsz⟩ := weights_cons hsz
  have hpost : ∀ W' : World, Below W.heap.size W W' → ∃ v, Ending.returned (.bool true) = .returned v ∧ Rows.setPointsSpec.post enc Tryz.prog Tryz.f7 false true false false W #[v0, v1, v2, v3, v4] v W' :=
    fun W' hb => ⟨_, rfl, law_post laidOut (of_decide_eq_true (by kernel_rfl)) rfl rfl Tryz.underlying4 rfl hW' hb⟩
  obtain ⟨D0, A0, n0, c0, ps0, rfl, I0, C0, k0⟩ := set_ofC (hval 0 24 v0 rfl rfl) (fun x hx => hlt x (by simp only [List.mem_append]; simp [hx])) z0 h0
  obtain ⟨D1, A1, n1, c1, ps1, rfl, I1, C1, k1⟩ := set_ofC (hval 1 24 v1 rfl rfl) (fun x hx => hlt x (by simp only [List.mem_append]; simp [hx])) z1 h1
  obtain ⟨A2, n2, c2, xs2, rfl, I2, C2⟩ := ints_ofD (hval 2 38 v2 rfl rfl) (fun x hx => hlt x (by simp only [List.mem_append]; simp [hx])) z2 h2
  obtain ⟨a3, rfl, rfl, rfl, w3⟩ := open_int Tryz.underlying3 (hval 3 3 v3 rfl rfl) h3
  have b3 := bounds_i64 w3
  obtain ⟨a4, rfl, rfl, rfl, w4⟩ := open_int Tryz.underlying3 (hval 4 3 v4 rfl rfl) h4
  have b4 := bounds_i64 w4
  refine (walk D0 A0 n0 c0 ps0 I0 C0 k0 D1 A1 n1 c1 ps1 I1 C1 k1 A2 n2 c2 xs2 I2 C2 a3 b3.1 b3.2 a4 b4.1 b4.2 (w := W)).mono fun e W' ⟨he, hb⟩ => ?_
  subst he
  exact hpost W' hb

theorem proved : Rows.SetPointsSaid :=
  OpenClaim.holds_of_wide 7 Tryz.f7 rfl rfl rfl rfl rfl rfl rfl ⟨rfl, rfl, rfl, rfl, rfl⟩ rfl rfl rfl rfl rfl (by kernel_rfl) Tryz.func7 (by kernel_rfl)
    (of_decide_eq_true (by kernel_rfl)) (by unfold Func.isWrapper; first | (rw [if_pos (by decide +kernel)]; kernel_rfl) | (rw [if_neg (by decide +kernel)]; exact ⟨rfl, rfl⟩))
    (fun os started H enc _ => lifted os started H enc)
#print axioms proved
end Go.Proofs.YtkgnlloioaobiaaGreat.setPoints
