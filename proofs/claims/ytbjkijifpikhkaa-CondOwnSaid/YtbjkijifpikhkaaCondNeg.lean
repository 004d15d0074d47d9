/-
  cond.Negate.
-/
import Derived.Test.YtbjkijifpikhkaaCondOpp
import Derived.Test.YtbjkijifpikhkaaCondNormal
import Derived.Test.YtbjkijifpikhkaaNfMath
import Derived.Test.YtbjkijifpikhkaaLinMake
import Derived.Deep.RegionHeld3
namespace Go.Proofs.Ytbjkijifpikhkaa
open Go.RowKit
set_option linter.unusedVariables false
set_option linter.unusedSimpArgs false

def nfD (n : Nat) (d : CD) : Int × Int × List Int × Int × Int := nf d.q d.M n d.xs d.K
/-- The normal form of one of the conditions exceeds the limits. -/
def negBad (n : Nat) (d : CD) : Bool := decide ((nfD n d).2.2.2.2 = 0) && !validB (nfD n d).2.2.1 (nfD n d).2.2.2.1
def negOne (n : Nat) (d : CD) : List CD := if (nfD n d).2.2.2.2 = 0 then [⟨(nfD n d).1, (nfD n d).2.1, (nfD n d).2.2.1, (nfD n d).2.2.2.1⟩] else if (nfD n d).2.2.2.2 = 1 then [⟨0, 0, zeros n, 0⟩] else []
def negOut (n : Nat) (ds : List CD) : List CD := ds.flatMap (negOne n)
def negFull (n : Nat) (ds : List CD) : Bool := ds.any (negBad n) || decide (400 < (negOut n ds).length)
/-- What Negate answers. -/
def negL (q M : Int) (n : Nat) (xs : List Int) (K : Int) : List CD := if validC q M xs K = true then (if negFull n (oppL q M n xs K) = true then [] else negOut n (oppL q M n xs K)) else []
def negE (q M : Int) (n : Nat) (xs : List Int) (K : Int) : Int := if validC q M xs K = true then (if negFull n (oppL q M n xs K) = true then 3 else 0) else 1
/-- The answer is a list of conditions that the call owns, and an error. -/
def NegRet (w : World) (e : Ending) (w' : World) (n : Nat) (out : List CD) (er : Int) : Prop :=
  ∃ u els, e = .returned (.tuple #[u, .int .i64 er]) ∧ CL w.heap.size w' u els ∧ els.map CEl.d = out ∧ (∀ e ∈ els, e.n = n) ∧ Below w.heap.size w w'
theorem CL2.mono {N0 N N0' N' : Nat} {W : World} {u : Value} {els : List CEl} (h : CL2 N0 N W u els) (hN0 : N0' ≤ N0) (hN : N' ≤ N) : CL2 N0' N' W u els :=
  ⟨⟨h.own.1, h.own.2.imp id fun ⟨g, cap, cur, hv, hg, r⟩ => ⟨g, cap, cur, hv, Nat.le_trans hN hg, r⟩⟩, h.few, h.ints, fun e he => (h.rows e he).mono hN0⟩

/-- What the conditions of Negate are like before they are normalized. -/
def OppOk (n : Nat) (d : CD) : Prop := KindOk d.q d.M ∧ (-4611686018427387904 ≤ d.K ∧ d.K ≤ 4611686018427387904) ∧ (∀ x ∈ d.xs, -4611686018427387904 ≤ x ∧ x ≤ 4611686018427387904) ∧ d.xs.length = n
theorem opp_ok {q M : Int} {n : Nat} {xs : List Int} {K : Int} (hv : validC q M xs K = true) : (∀ d ∈ oppL q M n xs K, OppOk n d) ∧ (oppL q M n xs K).length ≤ 511 := by
  obtain ⟨hvb, hk⟩ := validC_kind hv
  obtain ⟨v1, v2, v3⟩ := validB_true.1 hvb
  have hx : Tame xs := fun j => valid_at hvb j
  have hK := fitsB_true.1 v2
  have hm : ∀ s : Int, s = 1 ∨ s = -1 → (∀ x ∈ mulL n s xs, -4611686018427387904 ≤ x ∧ x ≤ 4611686018427387904) ∧ (mulL n s xs).length = n := fun s hs =>
    ⟨fun x h => by have := mulL_bd hs hx x h; omega, by simp [mulL]⟩
  unfold oppL
  rcases hk with ⟨rfl, rfl⟩ | ⟨rfl, rfl⟩ | ⟨rfl, hM⟩
  · rw [if_pos rfl]
    refine ⟨fun d hd => ?_, by simp⟩
    rw [List.mem_singleton.1 hd]
    exact ⟨.inl rfl, (by dsimp only; omega), (hm (-1) (.inr rfl)).1, (hm (-1) (.inr rfl)).2⟩
  · rw [if_neg (by decide), if_pos rfl]
    refine ⟨fun d hd => ?_, by simp⟩
    rcases List.mem_cons.1 hd with rfl | hd
    · exact ⟨.inl rfl, (by dsimp only; omega), (hm 1 (.inl rfl)).1, (hm 1 (.inl rfl)).2⟩
    · rw [List.mem_singleton.1 hd]
      exact ⟨.inl rfl, (by dsimp only; omega), (hm (-1) (.inr rfl)).1, (hm (-1) (.inr rfl)).2⟩
  · rw [if_neg (by decide), if_neg (by decide)]
    refine ⟨fun d hd => ?_, by simp; omega⟩
    obtain ⟨r, hr, rfl⟩ := List.mem_map.1 hd
    have := List.mem_range.1 hr
    exact ⟨.inr (.inr ⟨rfl, hM⟩), (by dsimp only; omega), (hm 1 (.inl rfl)).1, (hm 1 (.inl rfl)).2⟩
theorem cond_opp {q M : Int} {A : Option Addr} {n c : Nat} {K : Int} {xs : List Int} (hv : validC q M xs K = true) (w : World) (hI : IntsAt w A n xs) :
    Calls Try.prog 32 #[condV q M A n c K] w fun e w' => CondsRet w e w' n (oppL q M n xs K) := by
  obtain ⟨hvb, hk⟩ := validC_kind hv
  have hx : Tame xs := fun j => valid_at hvb j
  have hK := fitsB_true.1 (validB_true.1 hvb).2.1
  rcases hk with ⟨rfl, rfl⟩ | ⟨rfl, rfl⟩ | ⟨rfl, hM⟩
  · exact opp_ge 0 A n c K xs hK hx w hI
  · exact opp_eq 0 A n c K xs hK hx w hI
  · exact opp_dv M A n c K xs hK hx w hI hM

theorem nf_state {q M : Int} {n : Nat} {xs : List Int} {K : Int} (hl : xs.length = n) (hq : KindOk q M) : ((nf q M n xs K).2.2.2.2 = 0 ∧ (nf q M n xs K).2.2.1.length = n ∧ (nf q M n xs K).2.1 ≤ 512) ∨ (nf q M n xs K).2.2.2.2 = 1 ∨ (nf q M n xs K).2.2.2.2 = -1 := by
  rcases nf_case (K := K) hl hq with ⟨s, hs', h, hh⟩ | ⟨g, rfl, hg, h, h1, hd⟩ | ⟨D, rfl, hD, h, h1, h2, hd, hK⟩ | ⟨h, rfl, h0, hM, hne, e, hd, hK, hg⟩
  · rw [h]; exact .inr hs'
  · rw [h]; exact .inl ⟨rfl, quo_len _ _ _, (by decide : (0 : Int) ≤ 512)⟩
  · rw [h]; exact .inl ⟨rfl, quo_len _ _ _, (by decide : (0 : Int) ≤ 512)⟩
  · rw [e]
    refine .inl ⟨rfl, rem_len _ _ _ _, ?_⟩
    rcases hq with h | h | ⟨_, h1, h2⟩
    · cases h
    · cases h
    · have := Int.ediv_le_self (h : Int) (show 0 ≤ M by omega)
      show M / (h : Int) ≤ 512
      omega
theorem out_snoc {n i : Nat} {ds : List CD} {d : CD} (h : ds[i]? = some d) : negOut n (ds.take (i + 1)) = negOut n (ds.take i) ++ negOne n d := by
  obtain ⟨hi, e⟩ := List.getElem?_eq_some_iff.1 h
  unfold negOut
  rw [List.take_succ_eq_append_getElem hi, List.flatMap_append, e]
  simp
theorem out_len (n : Nat) : ∀ ds : List CD, (negOut n ds).length ≤ ds.length
  | [] => by simp [negOut]
  | d :: ds => by
    have := out_len n ds
    unfold negOut at this ⊢
    rw [List.flatMap_cons, List.length_append]
    have h1 : (negOne n d).length ≤ 1 := by unfold negOne; split <;> (try split) <;> simp
    simp only [List.length_cons]
    omega
theorem any_take {p : CD → Bool} {ds : List CD} {i : Nat} {d : CD} (h : ds[i]? = some d) (hp : p d = true) : ds.any p = true := by
  obtain ⟨hi, e⟩ := List.getElem?_eq_some_iff.1 h
  exact List.any_eq_true.2 ⟨d, e ▸ List.getElem_mem hi, hp⟩
theorem any_none {p : CD → Bool} {ds : List CD} (h : ∀ j d, j < ds.length → ds[j]? = some d → p d = false) : ds.any p = false := by
  rw [List.any_eq_false]
  intro d hd
  obtain ⟨j, hj, rfl⟩ := List.getElem_of_mem hd
  rw [h j _ hj (List.getElem?_eq_getElem hj)]
  simp

theorem cond_neg_bad (q M : Int) (A : Option Addr) (n c : Nat) (K : Int) (xs : List Int) (hv : validC q M xs K = false) (w : World) (hI : IntsAt w A n xs) :
    Calls Try.prog 18 #[condV q M A n c K] w fun e w' => NegRet w e w' n [] 1 := by
  have hB := below_alloc w (.cells #[.int .i64 q, .int .i64 M, .slice A n c, .int .i64 K] 26)
  have h1 := hI.step hB
  have HV := Lib.hid hv
  clear hv
  go_enter Try.func18, Try.ntmps18
  go_wp2_with (go_at_call 12; refine (cond_valid _ _ _ _ _ _ xs _ h1).mono ?_; rintro e w1 ⟨rfl, hb⟩; rw [HV.out]; replace hB := below_step hB hb)
  go_ret2
  exact ⟨_, [], rfl, CL.nil _ _, rfl, (fun e h => nomatch h), hB⟩

set_option maxHeartbeats 8000000 in
set_option maxRecDepth 100000 in
theorem cond_neg_ok (q M : Int) (A : Option Addr) (n c : Nat) (K : Int) (xs : List Int) (hv : validC q M xs K = true) (w : World) (hI : IntsAt w A n xs) :
    Calls Try.prog 18 #[condV q M A n c K] w fun e w' => NegRet w e w' n (if negFull n (oppL q M n xs K) = true then [] else negOut n (oppL q M n xs K)) (if negFull n (oppL q M n xs K) = true then 3 else 0) := by
  have hB := below_alloc w (.cells #[.int .i64 q, .int .i64 M, .slice A n c, .int .i64 K] 26)
  have h1 := hI.step hB
  have B1 := CBox.new w q M A n c K
  have HO := Lib.hid (fun W (h : IntsAt W A n xs) => cond_opp (c := c) hv W h)
  obtain ⟨hok, hlen⟩ := opp_ok (n := n) hv
  obtain ⟨ds, hds⟩ : ∃ ds, oppL q M n xs K = ds := ⟨_, rfl⟩
  rw [hds] at HO hok hlen ⊢
  have HV := Lib.hid hv
  have hsm := hI.small
  have hmk := make_ints n hsm
  have HOK := Lib.hid hok
  have HLEN := Lib.hid hlen
  obtain ⟨out, hout⟩ : ∃ o, (if negFull n ds = true then [] else negOut n ds) = o := ⟨_, rfl⟩
  obtain ⟨er, her⟩ : ∃ o : Int, (if negFull n ds = true then 3 else 0) = o := ⟨_, rfl⟩
  rw [hout, her]
  have HP := Lib.hid (And.intro hout.symm her.symm)
  clear hv hI hds hok hlen hout her
  go_enter Try.func18, Try.ntmps18
  go_wp2_with (first
    | (go_at_call 12; refine (cond_valid _ _ _ _ _ _ xs _ h1).mono ?_; rintro e w1 ⟨rfl, hb⟩; rw [HV.out]; replace hB := below_step hB hb; replace h1 := h1.step hb; replace B1 := B1.step hb; have c0 := B1.c0; have c1 := B1.c1; have c2 := B1.c2; have c3 := B1.c3)
    | (go_at_call 32; refine (HO.out _ h1).mono ?_; rintro e w2 ⟨A0, k0, els0, rfl, C0, hd0, hn0, hb⟩; replace hB := below_step hB hb; replace B1 := B1.step hb; generalize hm : els0.length = m at C0 ⊢))
  clear hb h1 c0 c1 c2 c3
  have HD0 := Lib.hid (And.intro hd0 hn0)
  have l1 := B1.lt
  have HM := Lib.hid (show ds.length = m by rw [← hd0, List.length_map]; exact hm)
  have hm1 : m ≤ 511 := by have := HM.out; have := HLEN.out; omega
  clear hd0 hn0 hm
  go_loopw [4, 15] (fun u v wr => ∃ (i : Nat) (els : List CEl), i ≤ m ∧ v = .int .i64 i ∧ CL w2.heap.size wr u els ∧ els.map CEl.d = negOut n (ds.take i) ∧ (∀ e ∈ els, e.n = n) ∧ (∀ j d, j < i → ds[j]? = some d → negBad n d = false) ∧ Below w2.heap.size w2 wr) (fun _ v _ => m - (intOf v).toNat)
  case atStart => exact ⟨0, [], Nat.zero_le _, rfl, CL.nil _ _, rfl, (fun e h => nomatch h), (fun j d h => absurd h (by omega)), Below.refl _ _⟩
  case round =>
    obtain ⟨i, els, hi, rfl, hL, hd, hn, hbad, hbr⟩ := hrel
    have hlen2 : els.length ≤ i := by
      have h3 := congrArg List.length hd
      rw [List.length_map] at h3
      have h4 := out_len n (ds.take i)
      have h5 := List.length_take_le i ds
      omega
    have HD := Lib.hid (And.intro hd (And.intro hn hbad))
    have S1 := B1.below hbr l1
    have c2 := S1.c2
    have C1 := C0.step hbr
    have hNs := hbr.size
    clear hd hn hbad
    obtain ⟨A9, k9, rfl⟩ := hL.slice
    by_cases hlt : i < m
    · obtain ⟨b, off, e, rfl, hblt, hej, hmem, hcs, hin⟩ := C1.at hlt
      obtain ⟨x0, x1, x2, x3⟩ := hcs
      obtain ⟨eq, eM, eA, en, ec, eK, exs⟩ := e
      simp only at x0 x1 x2 x3 hin
      have hdj : ds[i]? = some ⟨eq, eM, exs, eK⟩ := by rw [← HD0.out.1, List.getElem?_map, hej]; rfl
      have hdm : (⟨eq, eM, exs, eK⟩ : CD) ∈ ds := by obtain ⟨h8, h9⟩ := List.getElem?_eq_some_iff.1 hdj; exact h9 ▸ List.getElem_mem h8
      obtain ⟨ok1, ok2, ok3, ok4⟩ := HOK.out _ hdm
      obtain rfl : en = n := HD0.out.2 _ hmem
      have hq1 : (i : Int) < m := by omega
      have HN := Lib.hid (fun W (h : IntsAt W eA en exs) => wide_normal eq eM eA en ec eK exs ok1 ok2 ok3 W h)
      have hst := nf_state (K := eK) ok4 ok1
      have hbd : negBad en ⟨eq, eM, exs, eK⟩ = (decide ((nf eq eM en exs eK).2.2.2.2 = 0) && !validB (nf eq eM en exs eK).2.2.1 (nf eq eM en exs eK).2.2.2.1) := rfl
      have hone : negOne en ⟨eq, eM, exs, eK⟩ = if (nf eq eM en exs eK).2.2.2.2 = 0 then [⟨(nf eq eM en exs eK).1, (nf eq eM en exs eK).2.1, (nf eq eM en exs eK).2.2.1, (nf eq eM en exs eK).2.2.2.1⟩] else if (nf eq eM en exs eK).2.2.2.2 = 1 then [⟨0, 0, zeros en, 0⟩] else [] := rfl
      obtain ⟨r, hr⟩ : ∃ r, nf eq eM en exs eK = r := ⟨_, rfl⟩
      rw [hr] at HN hst hbd hone
      have HJ := Lib.hid hdj
      have y1 := hin.step (below_alloc wr (.cells #[.int .i64 eq, .int .i64 eM, .slice eA en ec, .int .i64 eK] 26))
      have L1 := hL.step (below_alloc wr (.cells #[.int .i64 eq, .int .i64 eM, .slice eA en ec, .int .i64 eK] 26))
      have S2 := S1.alloc (.cells #[.int .i64 eq, .int .i64 eM, .slice eA en ec, .int .i64 eK] 26)
      have hbr1 := hbr.trans ((below_alloc wr (.cells #[.int .i64 eq, .int .i64 eM, .slice eA en ec, .int .i64 eK] 26)).mono hNs)
      clear hdj hdm hr ok1 ok2 ok3 ok4 hej hmem hin c2
      rcases hst with ⟨hs, hX, hM5⟩ | hs | hs
      · rw [if_pos hs] at hone
        cases hvb : validB r.2.2.1 r.2.2.2.1
        · rw [hvb, hs] at hbd
          have HF := Lib.hid (show negFull en ds = true by unfold negFull; rw [any_take HJ.out hbd]; rfl)
          have HV5 := Lib.hid hvb
          clear hone hbd hvb
          go_wp2_with (first
            | (go_at_call 29; refine (HN.out _ y1).mono ?_; rintro e w4 ⟨A4, n4, c4, rfl, I4, hb4, O4⟩; have b5 := below_alloc w4 (.cells #[.int .i64 r.1, .int .i64 r.2.1, .slice A4 n4 c4, .int .i64 r.2.2.2.1] 26); replace I4 := I4.step b5; have X7 := CBox.new w4 r.1 r.2.1 A4 n4 c4 r.2.2.2.1; have d0 := X7.c0; have d1 := X7.c1; have d2 := X7.c2; have d3 := X7.c3; have hbr5 := (hbr1.trans (hb4.mono hbr1.size)).trans (b5.mono (Nat.le_trans hbr1.size hb4.size)))
            | (go_at_call 33; refine (wide_fits _ _ _ _ _ _ _ hM5 _ I4).mono ?_; rintro e w5 ⟨rfl, hb6⟩; rw [HV5.out]; replace hbr5 := hbr5.trans (hb6.mono hbr5.size)))
          have hEnd := below_step hB hbr5
          go_ret2
          rw [HP.out.1, HP.out.2, HF.out]
          exact ⟨_, [], rfl, CL.nil _ _, rfl, (fun e h => nomatch h), hEnd⟩
        · rw [hvb, hs] at hbd
          have HB := Lib.hid (And.intro hone hbd)
          have HV5 := Lib.hid hvb
          clear hone hbd hvb
          go_wp2_with (first
            | (go_at_call 29; refine (HN.out _ y1).mono ?_; rintro e w4 ⟨A4, n4, c4, rfl, I4, hb4, O4⟩; obtain rfl : n4 = en := I4.len.symm.trans hX; have b5 := below_alloc w4 (.cells #[.int .i64 r.1, .int .i64 r.2.1, .slice A4 n4 c4, .int .i64 r.2.2.2.1] 26); have R4 := ((FreshRow.ok O4 hbr1.size).step b5); replace I4 := I4.step b5; have X7 := CBox.new w4 r.1 r.2.1 A4 n4 c4 r.2.2.2.1; have d0 := X7.c0; have d1 := X7.c1; have d2 := X7.c2; have d3 := X7.c3; have L5 := (L1.step hb4).step b5; have hbr5 := (hbr1.trans (hb4.mono hbr1.size)).trans (b5.mono (Nat.le_trans hbr1.size hb4.size)))
            | (go_at_call 33; refine (wide_fits _ _ _ _ _ _ _ hM5 _ I4).mono ?_; rintro e w5 ⟨rfl, hb6⟩; rw [HV5.out]; have b7 := below_alloc w5 (.cells #[.int .i64 r.1, .int .i64 r.2.1, .slice A4 n4 c4, .int .i64 r.2.2.2.1] 26); have G7 := heap_alloc_new w5 (.cells #[.int .i64 r.1, .int .i64 r.2.1, .slice A4 n4 c4, .int .i64 r.2.2.2.1] 26); replace hbr5 := hbr5.trans (hb6.mono hbr5.size); replace hbr5 := hbr5.trans (b7.mono hbr5.size); have L7 := (L5.step hb6).step b7; have I7 := (I4.step hb6).step b7; have R7 := (R4.step hb6).step b7; replace X7 := X7.step hb6; have d0 := X7.c0; have d1 := X7.c1; have d2 := X7.c2; have d3 := X7.c3)
            | (at_builtin; refine wpList_append_cond rfl _ _ 36 rfl rfl rfl L7 w5.heap.size ⟨r.1, r.2.1, A4, n4, c4, r.2.2.2.1, r.2.2.1⟩ rfl G7 I7 R7 (by omega) hbr5.size ?_; intro g8 cap8 w8 L8 gr8 hb8; replace hbr5 := hbr5.trans hb8))
          go_roundw
          case rel => exact ⟨i + 1, els ++ [⟨r.1, r.2.1, A4, n4, c4, r.2.2.2.1, r.2.2.1⟩], by omega, by go_num, L8, by rw [out_snoc HJ.out, HB.out.1, List.map_append, HD.out.1]; rfl, (fun e he => by
            rcases List.mem_append.1 he with h | h
            · exact HD.out.2.1 e h
            · rw [List.mem_singleton.1 h]), (fun j d hj hjd => by
            rcases Nat.lt_or_eq_of_le (Nat.le_of_lt_succ hj) with h | rfl
            · exact HD.out.2.2 j d h hjd
            · rw [HJ.out] at hjd; cases hjd; exact HB.out.2), hbr5⟩
          case measure => simp [intOf]; omega
      · rw [if_neg (by rw [hs]; decide), if_pos hs] at hone
        rw [hs] at hbd
        have HB := Lib.hid (And.intro hone hbd)
        clear hone hbd
        go_wp2_with (first
          | (go_at_call 29; refine (HN.out _ y1).mono ?_; rintro e w4 ⟨A4, n4, c4, rfl, I4, hb4, O4⟩; have b5 := below_alloc w4 (.cells #[.int .i64 r.1, .int .i64 r.2.1, .slice A4 n4 c4, .int .i64 r.2.2.2.1] 26); have X7 := CBox.new w4 r.1 r.2.1 A4 n4 c4 r.2.2.2.1; have L5 := (L1.step hb4).step b5; have hbr5 := (hbr1.trans (hb4.mono hbr1.size)).trans (b5.mono (Nat.le_trans hbr1.size hb4.size)); have S5 := (S2.step hb4).step b5; have c2 := S5.c2; have b1 := below_alloc w4 (.cells #[.int .i64 0, .int .i64 0, .slice (some ⟨w4.heap.size + 1, 0, none⟩) en en, .int .i64 0] 26); have b2 := below_alloc (w4.alloc (.cells #[.int .i64 0, .int .i64 0, .slice (some ⟨w4.heap.size + 1, 0, none⟩) en en, .int .i64 0] 26)) (.cells ((zeros en).map (Value.int .i64)).toArray 3); have b3 := below_alloc ((w4.alloc (.cells #[.int .i64 0, .int .i64 0, .slice (some ⟨w4.heap.size + 1, 0, none⟩) en en, .int .i64 0] 26)).alloc (.cells ((zeros en).map (Value.int .i64)).toArray 3)) (.cells #[.int .i64 0, .int .i64 0, .slice (some ⟨w4.heap.size + 1, 0, none⟩) en en, .int .i64 0] 26); have L7 := (((L1.step hb4).step b1).step b2).step b3; have OZ := (OwnRow.new (w4.alloc (.cells #[.int .i64 0, .int .i64 0, .slice (some ⟨w4.heap.size + 1, 0, none⟩) en en, .int .i64 0] 26)) (zeros en) en (zeros_len en)).step b3; rw [World.size_alloc] at OZ; have hbr7 := hbr1.trans (hb4.mono hbr1.size); replace hbr7 := hbr7.trans (b1.mono hbr7.size); replace hbr7 := hbr7.trans (b2.mono hbr7.size); replace hbr7 := hbr7.trans (b3.mono hbr7.size); have I7 := OZ.ints hsm (zeros_wf en); have hN4 := Nat.le_trans hbr1.size hb4.size; have R7 := FreshRow.ok (N := w4.heap.size + 1) (N' := w2.heap.size) (.inr ⟨_, rfl, Nat.le_refl _, OZ⟩) (Nat.le_trans hN4 (Nat.le_succ _)); have G7 := heap_alloc_new ((w4.alloc (.cells #[.int .i64 0, .int .i64 0, .slice (some ⟨w4.heap.size + 1, 0, none⟩) en en, .int .i64 0] 26)).alloc (.cells ((zeros en).map (Value.int .i64)).toArray 3)) (.cells #[.int .i64 0, .int .i64 0, .slice (some ⟨w4.heap.size + 1, 0, none⟩) en en, .int .i64 0] 26); simp only [World.size_alloc] at G7; have hN7 := hbr7.size)
          | (at_builtin; refine wpList_append_cond rfl _ _ 36 rfl rfl rfl L7 (w4.heap.size + 1 + 1) ⟨0, 0, some ⟨w4.heap.size + 1, 0, none⟩, en, en, 0, zeros en⟩ rfl G7 I7 R7 (by omega) hN7 ?_; intro g8 cap8 w8 L8 gr8 hb8; replace hbr7 := hbr7.trans hb8))
        go_roundw
        case rel => exact ⟨i + 1, els ++ [⟨0, 0, some ⟨w4.heap.size + 1, 0, none⟩, en, en, 0, zeros en⟩], by omega, by go_num, L8, by rw [out_snoc HJ.out, HB.out.1, List.map_append, HD.out.1]; rfl, (fun e he => by
          rcases List.mem_append.1 he with h | h
          · exact HD.out.2.1 e h
          · rw [List.mem_singleton.1 h]), (fun j d hj hjd => by
          rcases Nat.lt_or_eq_of_le (Nat.le_of_lt_succ hj) with h | rfl
          · exact HD.out.2.2 j d h hjd
          · rw [HJ.out] at hjd; cases hjd; exact HB.out.2), hbr7⟩
        case measure => simp [intOf]; omega
      · rw [if_neg (by rw [hs]; decide), if_neg (by rw [hs]; decide)] at hone
        rw [hs] at hbd
        have HB := Lib.hid (And.intro hone hbd)
        clear hone hbd
        go_wp2_with (go_at_call 29; refine (HN.out _ y1).mono ?_; rintro e w4 ⟨A4, n4, c4, rfl, I4, hb4, O4⟩; have b5 := below_alloc w4 (.cells #[.int .i64 r.1, .int .i64 r.2.1, .slice A4 n4 c4, .int .i64 r.2.2.2.1] 26); have L5 := (L1.step hb4).step b5; have hbr5 := (hbr1.trans (hb4.mono hbr1.size)).trans (b5.mono (Nat.le_trans hbr1.size hb4.size)))
        go_roundw
        case rel => exact ⟨i + 1, els, by omega, by go_num, L5, by rw [out_snoc HJ.out, HB.out.1, List.append_nil]; exact HD.out.1, HD.out.2.1, (fun j d hj hjd => by
          rcases Nat.lt_or_eq_of_le (Nat.le_of_lt_succ hj) with h | rfl
          · exact HD.out.2.2 j d h hjd
          · rw [HJ.out] at hjd; cases hjd; exact HB.out.2), hbr5⟩
        case measure => simp [intOf]; omega
    · obtain rfl : i = m := by omega
      have hC := hL.conds.2
      have hall : negOut n (ds.take i) = negOut n ds := by rw [List.take_of_length_le (by rw [HM.out]; exact Nat.le_refl _)]
      have HA := Lib.hid (And.intro (show ds.any (negBad n) = false from any_none fun j d hj => HD.out.2.2 j d (by rw [← HM.out]; exact hj)) (show els.length = (negOut n ds).length by rw [← hall, ← HD.out.1, List.length_map]))
      have hge : ¬ ((i : Int) < i) := by omega
      have hEnd := below_step hB hbr
      have HALL := Lib.hid hall
      clear hall
      by_cases h4 : 400 < els.length
      · have HF := Lib.hid (show negFull n ds = true by unfold negFull; rw [HA.out.1, ← HA.out.2]; simpa using h4)
        have h4i : (400 : Int) < (els.length : Int) := by omega
        go_wp2
        go_ret2
        rw [HP.out.1, HP.out.2, HF.out]
        exact ⟨_, [], rfl, CL.nil _ _, rfl, (fun e h => nomatch h), hEnd⟩
      · have HF := Lib.hid (show negFull n ds = false by unfold negFull; rw [HA.out.1, ← HA.out.2]; simpa using h4)
        have h4i : ¬ (400 : Int) < (els.length : Int) := by omega
        have hL2 := hL.mono (show w.heap.size ≤ w2.heap.size by omega) (show w.heap.size ≤ w2.heap.size by omega)
        go_wp2
        go_ret2
        rw [HP.out.1, HP.out.2, HF.out]
        exact ⟨_, els, rfl, hL2, by rw [HD.out.1, HALL.out]; rfl, HD.out.2.1, hEnd⟩

/-- cond.Negate. -/
theorem cond_neg (q M : Int) (A : Option Addr) (n c : Nat) (K : Int) (xs : List Int) (w : World) (hI : IntsAt w A n xs) :
    Calls Try.prog 18 #[condV q M A n c K] w fun e w' => NegRet w e w' n (negL q M n xs K) (negE q M n xs K) := by
  unfold negL negE
  cases hv : validC q M xs K
  · exact cond_neg_bad q M A n c K xs hv w hI
  · exact cond_neg_ok q M A n c K xs hv w hI
end Go.Proofs.Ytbjkijifpikhkaa
