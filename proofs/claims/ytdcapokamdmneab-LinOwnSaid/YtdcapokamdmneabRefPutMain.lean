/-
  the reference's Put, where nothing is refused ahead.
-/
import Derived.Test.YtdcapokamdmneabProg
import Derived.Test.YtdcapokamdmneabLinKit
import Derived.Test.YtdcapokamdmneabLinTerms
import Derived.Test.YtdcapokamdmneabLinAt
import Derived.Test.YtdcapokamdmneabLinClone
import Derived.Test.YtdcapokamdmneabLinPut
import Derived.Test.YtdcapokamdmneabLinMake
import Derived.Test.YtdcapokamdmneabLinSum
import Derived.Test.YtdcapokamdmneabLinBase
import Derived.Test.YtdcapokamdmneabLinMix
import Derived.Test.YtdcapokamdmneabRegInv
import Derived.Test.YtdcapokamdmneabAppendInts
import Derived.Deep.RegionHeld3
import Derived.Deep.Cut
namespace Go.Proofs.Ytdcapokamdmneab
open Go.RowKit
set_option linter.unusedVariables false
set_option linter.unusedSimpArgs false

theorem keep2 {W : World} {bl : Nat} {u v x : Value} {a : Addr} (h : W.cell? a = some x) (ha : a.block ≠ bl) : ((W.setCell ⟨bl, 0, none⟩ u).setCell ⟨bl, 1, none⟩ v).cell? a = some x := by
  rw [← h]
  exact World.cell?_of_block (by rw [Below.heap_setCell _ _ _ _ ha, Below.heap_setCell _ _ _ _ ha])

/-- A copy of an expression in a new variable: the facts of its operations. -/
def copyFacts (n : Nat) (b1 : Nat) (A : Option Addr) (c : Nat) (K : Int) (xs : List Int) (B : Nat) : Nat → Fact B
  | 0 => .own 3 0 []
  | 1 => .val (.pointer (some ⟨b1, 0, none⟩))
  | 2 => .val (.slice A n c)
  | 3 => .own 3 (0 + n) ([] ++ vals xs)
  | 4 => .val (.pointer (some ⟨b1, 1, none⟩))
  | 5 => .val (.int .i64 K)
  | 6 => .pair 3 (0 + n) ([] ++ vals xs) (.int .i64 K)
  | 7 => .box 24 #[.slice none 0 0, .int .i64 0]
  | 8 => .pairBox 24 3 (0 + n) ([] ++ vals xs) (.int .i64 K)
  | _ => .any

def copyPlan (slots : List Nat) : Plan where
  slots := slots
  kill := [[], [], [], [0], [], [], [3], [], [6, 7]]
  need := [[], [], [1], [0, 2], [], [4], [3, 5], [], [6, 7]]

/-- The copy as it lies in its variable. -/
def CopyAt (w W : World) (v : Value) (n : Nat) (K : Int) (xs : List Int) : Prop :=
  ∃ b r, v = .pointer (some ⟨b, 0, none⟩) ∧ w.heap.size ≤ b ∧ W.heap[b]? = some (.cells #[r, .int .i64 K] 24 (0, 0)) ∧ W.ownsRow w.heap.size 3 1 r n (vals xs) ∧ r.ownBlock ≠ some b ∧ Below w.heap.size w W

set_option maxHeartbeats 4000000 in
theorem ref_put_main (b off n c : Nat) (K : Int) (xs : List Int) (i : Nat) (A' : Option Addr) (c' : Nat) (L : Int) (ys : List Int) (w : World) (hI : IntsAt w (some ⟨b, off, none⟩) n xs) (hI' : IntsAt w A' n ys) (hp : pairErr xs K ys L = 0) (hi : i < n) :
    Calls Try.prog 8 #[.agg #[.slice (some ⟨b, off, none⟩) n c, .int .i64 K], .int .i64 i, .agg #[.slice A' n c', .int .i64 L]] w fun e w' => LinRet w e w' (putXs n xs K i ys L) (putK n xs K i ys L) (putE n xs K i ys L) := by
  have hsm := hI.small
  obtain ⟨hv, hv', hll⟩ := pair_zero hp
  have B1 := ((LBox.new w (some ⟨b, off, none⟩) n c K).alloc (.cells #[.slice A' n c', .int .i64 L] 24)).alloc (.cells #[.slice none 0 0, .int .i64 0] 24)
  have B2 := (LBox.new (w.alloc (.cells #[.slice (some ⟨b, off, none⟩) n c, .int .i64 K] 24)) A' n c' L).alloc (.cells #[.slice none 0 0, .int .i64 0] 24)
  have B3 := LBox.new ((w.alloc (.cells #[.slice (some ⟨b, off, none⟩) n c, .int .i64 K] 24)).alloc (.cells #[.slice A' n c', .int .i64 L] 24)) none 0 0 0
  have hB := below_step (below_step (below_alloc w (.cells #[.slice (some ⟨b, off, none⟩) n c, .int .i64 K] 24)) (below_alloc _ (.cells #[.slice A' n c', .int .i64 L] 24))) (below_alloc _ (.cells #[.slice none 0 0, .int .i64 0] 24))
  have h1 := hI.step hB
  have h2 := hI'.step hB
  simp only [World.size_alloc] at B2 B3
  have HP := Lib.hid hp
  have HV := Lib.hid (And.intro hv hv')
  have hi1 : (i : Int) < n := by omega
  have hbl0 : b < w.heap.size := by
    obtain ⟨b', off', e', h0, _⟩ := hI.cells (by omega)
    simp only [Option.some.injEq, Addr.mk.injEq, and_true] at e'
    obtain ⟨rfl, rfl⟩ := e'
    exact h0
  clear hp hI hI' hv hv' hll
  go_enter Try.func8, Try.ntmps8
  go_wp2_with (go_at_call 27; refine (headlandref02_pair _ _ _ _ xs _ _ _ _ ys _ h1 h2).mono ?_; rintro e w1 ⟨rfl, hb⟩; rw [HP.out]; replace h1 := h1.step hb; replace h2 := h2.step hb; replace B1 := B1.step hb; replace B2 := B2.step hb; replace B3 := B3.step hb; have c10 := B1.c0; have c11 := B1.c1; replace hB := below_step hB hb)
  clear c10 c11
  go_cut [9] from 27 (fun v W => CopyAt w1 W v n K xs)
  case first =>
    rename_i hJ hK
    refine wp_region_plan (by rfl) (copyPlan [27, 28, 29, 30, 31, 32, 33, 9, 9]) (copyFacts n w.heap.size (some ⟨b, off, none⟩) c K xs w1.heap.size) (fun W => Below w1.heap.size w1 W) (by kernel_rfl) rfl (Below.refl _ _).drew ?_ ?_
    case refine_2 =>
      intro a W hS hsz hdf hold hf
      obtain ⟨b8, r8, e8, hb8, hc8, ho8, hne8⟩ := hf 8 (by decide) (by decide)
      rw [List.nil_append, Nat.zero_add] at ho8
      exact hK _ _ (Met.intro (hJ _ _ ⟨a.tmps.getD 9 undef, _, _, _, _, _, _, _, _, _, _, _, _, _, _, _, _, _, _, _, _, _, _, ⟨b8, r8, e8, hb8, hc8, ho8, hne8, hS⟩, act_lit (n := 49) (copyPlan [27, 28, 29, 30, 31, 32, 33, 9, 9]) hsz hdf hold⟩))
    refine ⟨?_, ?_, ?_, ?_, ?_, ?_, ?_, ?_, ?_, trivial⟩ <;> intro a W hS hold hn hap hsz0 <;> have hsz : Hid (a.tmps.size = 49) := Lib.hid hsz0 <;> clear hsz0
    · refine step_lit (cs := #[]) rfl rfl (slot_lt hsz (by kernel_rfl)) rfl (by decide) hS.size ?_ (hS.alloc hS.size _)
      go_simp
    · have e2 := getd (hold 3 rfl)
      refine step_val rfl rfl (slot_lt hsz (by kernel_rfl)) ?_ hS
      go_simp
    · obtain ⟨f1, _⟩ := hn
      have e1 := getd (show a.tmps.getD 28 undef = _ from f1)
      have c1 := (B1.below hS B1.lt).c0
      refine step_val rfl rfl (slot_lt hsz (by kernel_rfl)) ?_ hS
      go_simp
    · obtain ⟨f1, f2, _⟩ := hn
      have f1 : W.ownsRow w1.heap.size 3 1 (a.tmps.getD 27 undef) 0 [] := f1
      have f2 : a.tmps.getD 29 undef = _ := f2
      refine step_more rfl rfl (slot_lt hsz (by kernel_rfl)) rfl rfl ?_ (fun w' hg => hS.grown hg hS.size fun k hk => (f1.lt k hk).1)
      obtain ⟨v', w', r1, r2, r3, r4⟩ := append_ints W w1.heap.size 22 _ _ _ f1 _ _ _ _ (h1.step hS) (by omega) hS.size
      exact ⟨v', w', exec_append rfl rfl f2 r1, r2, r3, r4⟩
    · have e2 := getd (hold 3 rfl)
      refine step_val rfl rfl (slot_lt hsz (by kernel_rfl)) ?_ hS
      go_simp
    · obtain ⟨f1, _⟩ := hn
      have e1 := getd (show a.tmps.getD 31 undef = _ from f1)
      have c1 := (B1.below hS B1.lt).c1
      refine step_val rfl rfl (slot_lt hsz (by kernel_rfl)) ?_ hS
      go_simp
    · obtain ⟨f1, f2, _⟩ := hn
      have f1 : W.ownsRow w1.heap.size 3 1 (a.tmps.getD 30 undef) (0 + n) ([] ++ vals xs) := f1
      generalize hr : a.tmps.getD 30 undef = r at f1
      obtain ⟨A0, k0, rfl⟩ := own_slice f1
      have e1 := getd hr
      have e2 := getd (show a.tmps.getD 32 undef = _ from f2)
      refine step_pair rfl rfl (slot_lt hsz (by kernel_rfl)) rfl rfl hr f1 ?_ hS
      go_simp
    · refine step_box rfl rfl (slot_lt hsz (by kernel_rfl)) hS.size ?_ (hS.alloc hS.size _)
      go_simp
    · refine step_lay rfl rfl rfl (by decide) rfl rfl rfl rfl hn hap ?_
      intro bb rr e1 e2 hc hbb hor
      have e1 := getd (show a.tmps.getD 9 undef = _ from e1)
      have e2 := getd (show a.tmps.getD 33 undef = _ from e2)
      obtain ⟨A0, k0, rfl⟩ := own_slice hor
      have LB : LBox W bb none 0 0 0 := hc
      have c0 := LB.c0
      have c1 := LB.c1
      have f0 := LB.f 0
      have f1 := LB.f 1
      refine ⟨(W.setCell ⟨bb, 0, none⟩ (.slice A0 (0 + n) k0)).setCell ⟨bb, 1, none⟩ (.int .i64 K), ?_, ?_, LB.store _ _ _ _, (hS.setCell (p := ⟨bb, 0, none⟩) hbb _).setCell (p := ⟨bb, 1, none⟩) hbb _⟩
      · clear hap hn hold hor
        go_simp
      · exact ⟨rfl, rfl, rfl, by simp [World.setCell], fun k hk hne => by rw [Below.heap_setCell _ _ _ _ (fun e => hne (by rw [e])), Below.heap_setCell _ _ _ _ (fun e => hne (by rw [e]))]⟩
  case rest =>
    obtain ⟨bb, r, rfl, hbb, hc, hor, hne, hbw⟩ := hcut
    have l0 := B3.lt
    have n1 : bb ≠ w.heap.size + 1 + 1 := by omega
    have n2 : b ≠ w.heap.size + 1 + 1 := by omega
    have n3 : w.heap.size ≠ w.heap.size + 1 + 1 := by omega
    have n4 : w.heap.size + 1 ≠ w.heap.size + 1 + 1 := by omega
    clear l0
    obtain ⟨g, cap, rfl, hg, OR⟩ := ownRow_of_owns hor (by omega)
    have LB : LBox wc bb (some ⟨g, 0, none⟩) n cap K := hc
    have hne1 : g ≠ bb := fun e => hne (by simp [Value.ownBlock, e])
    have hb8 := hbw.setCell (p := ⟨g, i, none⟩) hg (.int .i64 0)
    have OR8 := OR.set hi 0
    have LB8 := LB.other (a := ⟨g, i, none⟩) (fun e => hne1 e.symm) (.int .i64 0)
    clear hc hor hne
    have c0 := LB.c0
    have d0 := OR.cell hi
    have d1 := OR.free i
    go_wp2
    generalize hw8 : wc.setCell ⟨g, i, none⟩ (.int .i64 0) = w8 at *
    clear c0 d0 d1 OR LB hbw hw8
    obtain ⟨b', off', e', hbl, hcs⟩ := h1.cells (by omega)
    simp only [Option.some.injEq, Addr.mk.injEq, and_true] at e'
    obtain ⟨rfl, rfl⟩ := e'
    have hcell := (hb8.cell (p := ⟨b, off + i, none⟩) hbl).trans (hcs i hi)
    have hbl8 : b < w8.heap.size := Nat.lt_of_lt_of_le hbl hb8.size
    have hx := valid_tame HV.out.1
    have hy := valid_tame HV.out.2
    have hxs : Tame (xs.set i 0) := fun j => by
      by_cases e : i = j
      · subst e
        by_cases hl : i < xs.length
        · simp [hl]
        · simp [hl]
      · rw [List.getElem?_set_ne e]; exact hx j
    have hmix : mixL n 1 (xs.set i 0) (xs[i]?.getD 0) ys = putL n xs i ys := by
      apply List.map_congr_left
      intro j hj
      rw [Int.one_mul]
      by_cases e : i = j
      · subst e
        have hl : i < xs.length := by rw [h1.len]; exact hi
        simp [hl]
      · rw [List.getElem?_set_ne e, if_neg (fun e' => e e'.symm)]
    have I8 : IntsAt w8 (some ⟨g, 0, none⟩) n (xs.set i 0) := OR8.ints hsm fun x hx' => by
      rcases List.mem_or_eq_of_mem_set hx' with h | h
      · exact h1.wf x h
      · subst h; omega
    replace h2 := h2.step hb8
    replace B1 := B1.step hb8
    replace B2 := B2.step hb8
    replace B3 := B3.step hb8
    replace hB := below_step hB hb8
    clear hb hcs OR8
    have HM := Lib.hid (ref_mix 1 (xs[i]?.getD 0) (some ⟨g, 0, none⟩) n cap K (xs.set i 0) A' n c' L ys w8.drew (I8.step (Below.refl _ w8).drew) (h2.step (Below.refl _ w8).drew) (Nat.le_refl _) (by decide) (hx i) (valid_k HV.out.1) (valid_k HV.out.2) hxs hy)
    rw [hmix] at HM
    have HT := Lib.hid (And.intro hmix (And.intro hx hy))
    obtain ⟨kk, hkk⟩ : ∃ kk, 1 * K + xs[i]?.getD 0 * L = kk := ⟨_, rfl⟩
    rw [hkk] at HM
    rw [Int.one_mul] at hkk
    clear hmix hx hy hxs
    have c10 := B1.c0
    have c20 := B2.c0
    have c21 := B2.c1
    have c30 := LB8.c0
    have c31 := LB8.c1
    have l1 := B1.lt
    have l2 := B2.lt
    have l3 := B3.lt
    have l4 := LB8.lt
    generalize hxi : xs[i]?.getD 0 = xi at *
    have HXI := Lib.hid hxi
    clear hxi
    cases hr : validB (putL n xs i ys) kk
    · have HE := Lib.hid (And.intro (putXs_bad (K := K) (L := L) (by rw [HXI.out, hkk]; exact hr)) (And.intro (putK_bad (K := K) (L := L) (by rw [HXI.out, hkk]; exact hr)) (putE_bad (K := K) (L := L) (by rw [HXI.out, hkk]; exact hr))))
      clear hkk
      go_region_held3 (fun W => W.cell? ⟨bb, 0, none⟩ = some (.slice (some ⟨g, 0, none⟩) n cap) ∧ W.cell? ⟨bb, 1, none⟩ = some (.int .i64 K) ∧ W.cell? ⟨w.heap.size, 0, none⟩ = some (.slice (some ⟨b, off, none⟩) n c) ∧ W.cell? ⟨b, off + i, none⟩ = some (.int .i64 xi) ∧ W.cell? ⟨w.heap.size + 1, 0, none⟩ = some (.slice A' n c') ∧ W.cell? ⟨w.heap.size + 1, 1, none⟩ = some (.int .i64 L)) (first | (exact ⟨keep2 k0 n1, keep2 k1 n1, keep2 k2 n3, keep2 k3 n2, keep2 k4 n4, keep2 k5 n4⟩) | go_keep)
        (first
          | (go_at_call 29; refine HM.out.mono ?_; rintro e w2 ⟨g5, c5, rfl, hg5, I5, hb2⟩; have hb2' := (Below.refl w8.heap.size w8).drew.trans hb2; have k0 := (hb2'.cell (p := ⟨bb, 0, none⟩) l4).trans c30; have k1 := (hb2'.cell (p := ⟨bb, 1, none⟩) l4).trans c31; have k2 := (hb2'.cell (p := ⟨w.heap.size, 0, none⟩) l1).trans c10; have k3 := (hb2'.cell (p := ⟨b, off + i, none⟩) hbl8).trans hcell; have k4 := (hb2'.cell (p := ⟨w.heap.size + 1, 0, none⟩) l2).trans c20; have k5 := (hb2'.cell (p := ⟨w.heap.size + 1, 1, none⟩) l2).trans c21)
          | (go_at_call 28; refine (headlandref02_fit_bad _ _ _ _ _ _ I5 hr).mono ?_; rintro e w3 ⟨rfl, hb3⟩; have hb3' := below_step hb2' hb3; have k0 := (hb3'.cell (p := ⟨bb, 0, none⟩) l4).trans c30; have k1 := (hb3'.cell (p := ⟨bb, 1, none⟩) l4).trans c31; have k2 := (hb3'.cell (p := ⟨w.heap.size, 0, none⟩) l1).trans c10; have k3 := (hb3'.cell (p := ⟨b, off + i, none⟩) hbl8).trans hcell; have k4 := (hb3'.cell (p := ⟨w.heap.size + 1, 0, none⟩) l2).trans c20; have k5 := (hb3'.cell (p := ⟨w.heap.size + 1, 1, none⟩) l2).trans c21; have B4 := B3.step hb3'; have c40 := B4.c0; have c41 := B4.c1; have f30 := B4.f 0; have f31 := B4.f 1))
      all_goals
        have c50 := B4.s0 (.slice none 0 0)
        have c51 := (B4.store none 0 0 0).c1
        have hEnd := below_step hB hb3'
        clear k0 k1 k2 k3 k4 k5 c10 c20 c21 c30 c31
        go_wp2
        refine bodyPost_ret (v := .tuple #[.agg #[.slice none 0 0, .int .i64 0], .int .i64 3]) (by simp [results, Try.results8, go_sem, c50, c51]) rfl ?_
        rw [HE.out.1]
        exact ret_lin HE.out.2.2 HE.out.2.1 (ints_nil _ _) (below_store2 hEnd (by omega) _ _)
    · have HE := Lib.hid (And.intro (putXs_ok (K := K) (L := L) (by rw [HXI.out, hkk]; exact hr)) (And.intro ((putK_ok (K := K) (L := L) (by rw [HXI.out, hkk]; exact hr)).trans (by rw [HXI.out, hkk])) (putE_ok (K := K) (L := L) (by rw [HXI.out, hkk]; exact hr))))
      clear hkk
      go_region_held3 (fun W => W.cell? ⟨bb, 0, none⟩ = some (.slice (some ⟨g, 0, none⟩) n cap) ∧ W.cell? ⟨bb, 1, none⟩ = some (.int .i64 K) ∧ W.cell? ⟨w.heap.size, 0, none⟩ = some (.slice (some ⟨b, off, none⟩) n c) ∧ W.cell? ⟨b, off + i, none⟩ = some (.int .i64 xi) ∧ W.cell? ⟨w.heap.size + 1, 0, none⟩ = some (.slice A' n c') ∧ W.cell? ⟨w.heap.size + 1, 1, none⟩ = some (.int .i64 L)) (first | (exact ⟨keep2 k0 n1, keep2 k1 n1, keep2 k2 n3, keep2 k3 n2, keep2 k4 n4, keep2 k5 n4⟩) | go_keep)
        (first
          | (go_at_call 29; refine HM.out.mono ?_; rintro e w2 ⟨g5, c5, rfl, hg5, I5, hb2⟩; have hb2' := (Below.refl w8.heap.size w8).drew.trans hb2; have k0 := (hb2'.cell (p := ⟨bb, 0, none⟩) l4).trans c30; have k1 := (hb2'.cell (p := ⟨bb, 1, none⟩) l4).trans c31; have k2 := (hb2'.cell (p := ⟨w.heap.size, 0, none⟩) l1).trans c10; have k3 := (hb2'.cell (p := ⟨b, off + i, none⟩) hbl8).trans hcell; have k4 := (hb2'.cell (p := ⟨w.heap.size + 1, 0, none⟩) l2).trans c20; have k5 := (hb2'.cell (p := ⟨w.heap.size + 1, 1, none⟩) l2).trans c21)
          | (go_at_call 28; refine (headlandref02_fit_ok _ _ _ _ _ _ I5 hr).mono ?_; rintro e w3 ⟨rfl, hb3⟩; have hb3' := below_step hb2' hb3; have k0 := (hb3'.cell (p := ⟨bb, 0, none⟩) l4).trans c30; have k1 := (hb3'.cell (p := ⟨bb, 1, none⟩) l4).trans c31; have k2 := (hb3'.cell (p := ⟨w.heap.size, 0, none⟩) l1).trans c10; have k3 := (hb3'.cell (p := ⟨b, off + i, none⟩) hbl8).trans hcell; have k4 := (hb3'.cell (p := ⟨w.heap.size + 1, 0, none⟩) l2).trans c20; have k5 := (hb3'.cell (p := ⟨w.heap.size + 1, 1, none⟩) l2).trans c21; have B4 := B3.step hb3'; have c40 := B4.c0; have c41 := B4.c1; have f30 := B4.f 0; have f31 := B4.f 1))
      all_goals
        have c50 := B4.s0 (.slice (some ⟨g5, 0, none⟩) n c5)
        have c51 := (B4.store (some ⟨g5, 0, none⟩) n c5 kk).c1
        have hEnd := below_step hB hb3'
        have hg6 : w8.heap.size ≤ g5 := hg5
        have I6 := I5.step hb3
        clear k0 k1 k2 k3 k4 k5 c10 c20 c21 c30 c31
        go_wp2
        refine bodyPost_ret (v := .tuple #[.agg #[.slice (some ⟨g5, 0, none⟩) n c5, .int .i64 kk], .int .i64 0]) (by simp [results, Try.results8, go_sem, c50, c51]) rfl ?_
        rw [HE.out.1]
        exact ret_lin HE.out.2.2 HE.out.2.1 (ints_store2 I6 rfl (by omega) _ _) (below_store2 hEnd (by omega) _ _)
end Go.Proofs.Ytdcapokamdmneab
