/-
  lin.Cut.
-/
import Derived.Test.YtdcapokamdmneabProg
import Derived.Test.YtdcapokamdmneabLinKit
import Derived.Test.YtdcapokamdmneabLinTerms
import Derived.Test.YtdcapokamdmneabLinAt
import Derived.Test.YtdcapokamdmneabLinClone
import Derived.Test.YtdcapokamdmneabLinPut
import Derived.Test.YtdcapokamdmneabLinMake
import Derived.Test.YtdcapokamdmneabLinConcat
import Derived.Test.YtdcapokamdmneabLinSum
import Derived.Deep.RegionHeld3
namespace Go.Proofs.Ytdcapokamdmneab
open Go.RowKit
set_option linter.unusedVariables false
set_option linter.unusedSimpArgs false

theorem below_step0 {w w' : World} {o : Obj} (h : Below w.heap.size (w.alloc o).drew w') : Below w.heap.size w w' := ((below_alloc w o).drew).trans h

/-- A piece of a slice of integers. -/
theorem ints_sub {w : World} {b off n d k : Nat} {xs : List Int} (hl : xs.length = n) (hs : n ≤ 17592186044416) (hw : ∀ x ∈ xs, -9223372036854775808 ≤ x ∧ x ≤ 9223372036854775807) (hb : b < w.heap.size)
    (hc : ∀ j, j < n → w.cell? ⟨b, off + j, none⟩ = some (.int .i64 (xs[j]?.getD 0))) (hdk : d + k ≤ n) : IntsAt w (some ⟨b, off + d, none⟩) k ((xs.drop d).take k) := by
  refine ⟨by simp [hl]; omega, by omega, fun x hx => hw x (List.mem_of_mem_drop (List.mem_of_mem_take hx)), fun _ => ⟨b, off + d, rfl, hb, fun j hj => ?_⟩⟩
  rw [show off + d + j = off + (d + j) by omega, hc (d + j) (by omega)]
  simp [hj, List.getElem?_take]

/-- The two parts that Cut joins. -/
def cutP (b off n c i : Nat) (xs : List Int) (j : Nat) : Part :=
  if j = 0 then ⟨some ⟨b, off, none⟩, i, c, xs.take i⟩ else ⟨(if c = i + 1 then some ⟨b, off, none⟩ else some ⟨b, off + (i + 1), none⟩), n - (i + 1), c - (i + 1), xs.drop (i + 1)⟩

theorem cut_parts {w : World} {b off n c i : Nat} {xs : List Int} (hl : xs.length = n) (hs : n ≤ 17592186044416) (hw : ∀ x ∈ xs, -9223372036854775808 ≤ x ∧ x ≤ 9223372036854775807) (hb : b < w.heap.size)
    (hc : ∀ j, j < n → w.cell? ⟨b, off + j, none⟩ = some (.int .i64 (xs[j]?.getD 0))) (hi : i < n) (hnc : n ≤ c) :
    PartsAt (w.alloc (.cells #[.slice (some ⟨b, off, none⟩) i c, .slice (if c = i + 1 then some ⟨b, off, none⟩ else some ⟨b, off + (i + 1), none⟩) (n - (i + 1)) (c - (i + 1))] 22)).drew w.heap.size 0 2 (cutP b off n c i xs) := by
  obtain ⟨o, ho⟩ : ∃ o, o = (Obj.cells #[.slice (some ⟨b, off, none⟩) i c, .slice (if c = i + 1 then some ⟨b, off, none⟩ else some ⟨b, off + (i + 1), none⟩) (n - (i + 1)) (c - (i + 1))] 22) := ⟨_, rfl⟩
  have hst : Below w.heap.size w (w.alloc o).drew := (below_alloc w o).drew
  intro j hj
  rcases (show j = 0 ∨ j = 1 by omega) with rfl | rfl
  · refine ⟨?_, ?_, fun h => by simp [cutP] at h⟩
    · rw [World.cell?_drew, World.cell?_alloc_at _ _ _ _ rfl]; rfl
    · rw [← ho]
      have h := ints_sub (d := 0) (k := i) hl hs hw hb hc (by omega)
      exact IntsAt.step (by simpa [cutP] using h) hst
  · refine ⟨?_, ?_, fun h => by
      have h' : (if c = i + 1 then some (⟨b, off, none⟩ : Addr) else some ⟨b, off + (i + 1), none⟩) = none := h
      split at h' <;> cases h'⟩
    · rw [World.cell?_drew, World.cell?_alloc_at _ _ _ _ rfl]; rfl
    · rw [← ho]
      refine IntsAt.step ?_ hst
      show IntsAt w (if c = i + 1 then some ⟨b, off, none⟩ else some ⟨b, off + (i + 1), none⟩) (n - (i + 1)) (xs.drop (i + 1))
      have h := ints_sub (d := i + 1) (k := n - (i + 1)) hl hs hw hb hc (by omega)
      have e : (xs.drop (i + 1)).take (n - (i + 1)) = xs.drop (i + 1) := List.take_of_length_le (by simp [hl])
      rw [e] at h
      by_cases h1 : c = i + 1
      · have h0 : n - (i + 1) = 0 := by omega
        rw [h0] at h ⊢
        exact ⟨h.len, h.small, h.wf, fun hn => absurd hn (by omega)⟩
      · rw [if_neg h1]; exact h

theorem cut_tot {b off n c i : Nat} {xs : List Int} (hi : i < n) : tot (cutP b off n c i xs) 2 = n - 1 := by simp [tot, cutP]; omega
theorem cut_cat {b off n c i : Nat} {xs : List Int} : cat (cutP b off n c i xs) 2 = xs.eraseIdx i := by simp [cat, cutP, List.eraseIdx_eq_take_drop_succ]

set_option maxHeartbeats 2000000 in
theorem lin_cut_ok (b off n c : Nat) (K : Int) (xs : List Int) (i : Nat) (w : World) (hI : IntsAt w (some ⟨b, off, none⟩) n xs) (hbl : b < w.heap.size) (hcs : ∀ j, j < n → w.cell? ⟨b, off + j, none⟩ = some (.int .i64 (xs[j]?.getD 0))) (hnc : n ≤ c) (hc63 : c ≤ 9223372036854775807)
    (hv : validB xs K = true) (hi : i < n) (hz : xs[i]?.getD 0 = 0) :
    Calls Try.prog 9 #[.agg #[.slice (some ⟨b, off, none⟩) n c, .int .i64 K], .int .i64 i] w fun e w' => RetO w e w' (xs.eraseIdx i) K 0 := by
  have hsm := hI.small
  have B1 := (LBox.new w (some ⟨b, off, none⟩) n c K).alloc (.cells #[.slice none 0 0, .int .i64 0] 24)
  have B2 := LBox.new (w.alloc (.cells #[.slice (some ⟨b, off, none⟩) n c, .int .i64 K] 24)) none 0 0 0
  have hB := below_step (below_alloc w (.cells #[.slice (some ⟨b, off, none⟩) n c, .int .i64 K] 24)) (below_alloc _ (.cells #[.slice none 0 0, .int .i64 0] 24))
  have h1 := hI.step hB
  rw [World.size_alloc] at B2
  have hx := (hB.cell (p := ⟨b, off + i, none⟩) hbl).trans (hcs i hi)
  rw [hz] at hx
  have HC := Lib.hid hcs
  have hi1 : (i : Int) < n := by omega
  have hi2 : (i : Int) ≤ c := by omega
  clear hcs hI
  go_enter Try.func9, Try.ntmps9
  go_wp2_with (go_at_call 30; refine (lin_valid _ _ _ _ xs _ h1).mono ?_; rintro e w1 ⟨rfl, hb⟩; replace h1 := h1.step hb; replace B1 := B1.step hb; replace B2 := B2.step hb; have c10 := B1.c0; have c11 := B1.c1; replace hx := (hb.cell (p := ⟨b, off + i, none⟩) (by simp; omega)).trans hx; replace hB := below_step hB hb)
  have l2 := B2.lt
  have HA := Lib.hid (fun j (hj : j < n) => (hB.cell (p := ⟨b, off + j, none⟩) hbl).trans (HC.out j hj))
  have l0 : w.heap.size < w1.heap.size := by omega
  have n0 : w.heap.size + 1 ≠ w.heap.size := by omega
  have hbl1 : b < w1.heap.size := by omega
  have hle12 := (validB_true.1 hv).1
  obtain ⟨Q, hQ⟩ : ∃ Q, (if c = i + 1 then some (⟨b, off, none⟩ : Addr) else some ⟨b, off + (i + 1), none⟩) = Q := ⟨_, rfl⟩
  have ct := ((concat_in w1.heap.size 0 2 2 (cutP b off n c i xs) _ (cut_parts h1.len hsm h1.wf hbl1 HA.out hi hnc) (by simp) (by omega) (by rw [cut_tot hi]; have := h1.len; omega)).mono
    (R' := fun e w2 => ∃ A5 c5, e = .returned (.slice A5 (n - 1) c5) ∧ IntsAt w2 A5 (n - 1) (xs.eraseIdx i) ∧ Below w1.heap.size (w1.alloc (.cells #[.slice (some ⟨b, off, none⟩) i c, .slice (if c = i + 1 then some ⟨b, off, none⟩ else some ⟨b, off + (i + 1), none⟩) (n - (i + 1)) (c - (i + 1))] 22)).drew w2 ∧ (n - 1 = 0 ∨ ∃ g, A5 = some ⟨g, 0, none⟩ ∧ w1.heap.size ≤ g ∧ OwnRow w2 g (n - 1) (xs.eraseIdx i))) (by
      rintro e w2 ⟨v, rfl, hv2, hb2⟩
      rw [cut_tot hi, cut_cat] at hv2
      have hb3 := hb2.mono (show w1.heap.size ≤ (w1.alloc _).heap.size by simp)
      rcases hv2 with ⟨rfl, h0⟩ | ⟨g, cap, rfl, hg, hr, hcap⟩
      · refine ⟨none, 0, by rw [h0], ?_, hb3, .inl h0⟩
        have h9 : (xs.eraseIdx i).length = n - 1 := by rw [List.length_eraseIdx, if_pos (by rw [h1.len]; exact hi), h1.len]
        rw [h0] at h9 ⊢
        rw [List.eq_nil_of_length_eq_zero h9]
        exact ints_nil _ _
      · refine ⟨some ⟨g, 0, none⟩, cap, rfl, hr.ints (by omega) (fun x hx => h1.wf x (List.mem_of_mem_eraseIdx hx)), hb3, .inr ⟨g, rfl, ?_, hr⟩⟩
        have : (w1.alloc _).heap.size ≤ g := hg
        simp at this
        omega))
  rw [hQ] at ct
  have CT := Lib.hid ct
  clear ct
  have s1 : IntKind.i64.wrap ((i : Int) + 1) = (i : Int) + 1 := IntWalk.i64_in _ (by omega)
  have s2 : (0 : Int) ≤ (i : Int) + 1 := by omega
  have s3 : ((i : Int) + 1).toNat = i + 1 := by omega
  have s4 : (i : Int) + 1 ≤ n := by omega
  have s5 : (i : Int) + 1 ≤ c := by omega
  have s6 : (n : Int) ≤ c := by omega
  go_region_held3 (fun W => W.cell? ⟨w.heap.size, 0, none⟩ = some (.slice (some ⟨b, off, none⟩) n c) ∧ W.cell? ⟨w.heap.size, 1, none⟩ = some (.int .i64 K)) (go_keep)
    (first | (go_at_call 31; refine CT.out.mono ?_; rintro e w2 ⟨A5, c5, rfl, I5, hb2, hf5⟩; have hb2' := (below_step0 hb2 : Below w1.heap.size w1 w2); have k0 := (hb2'.cell (p := ⟨w.heap.size, 0, none⟩) l0).trans c10; have k1 := (hb2'.cell (p := ⟨w.heap.size, 1, none⟩) l0).trans c11; have B4 := B2.step hb2'; have c40 := B4.c0; have c41 := B4.c1; have f40 := B4.f 0; have f41 := B4.f 1))
  have c50 := B4.s0 (.slice A5 (n - 1) c5)
  have c51 := (B4.store A5 (n - 1) c5 K).c1
  have hf6 : n - 1 = 0 ∨ ∃ g, A5 = some ⟨g, 0, none⟩ ∧ w.heap.size + 1 < g ∧ OwnRow w2 g (n - 1) (xs.eraseIdx i) := hf5.imp id (fun ⟨g, h, h', ho⟩ => ⟨g, h, by omega, ho⟩)
  have hEnd := below_step hB hb2'
  clear k0 k1 c10 c11 hx n0 s1 s2 s3 s4 s5 s6 hQ
  go_wp2
  refine bodyPost_ret (v := .tuple #[.agg #[.slice A5 (n - 1) c5, .int .i64 K], .int .i64 0]) (by simp [results, Try.results9, go_sem, c50, c51]) rfl ?_
  exact ret_o rfl rfl (ints_far I5 (hf6.imp id (fun ⟨g, h, h', _⟩ => ⟨g, h, by omega⟩)) _ _) (below_store2 hEnd (by omega) _ _) (hf6.imp id (fun ⟨g, h, h', ho⟩ => ⟨g, h, by omega, ho.store2 (by omega) _ _⟩))

theorem lin_cut_inv (A : Option Addr) (n c : Nat) (K : Int) (xs : List Int) (i : Int) (w : World) (hI : IntsAt w A n xs) (hv : validB xs K = false) :
    Calls Try.prog 9 #[.agg #[.slice A n c, .int .i64 K], .int .i64 i] w fun e w' => RetF w e w' [] 0 1 := by
  have hsm := hI.small
  have B1 := (LBox.new w A n c K).alloc (.cells #[.slice none 0 0, .int .i64 0] 24)
  have B2 := LBox.new (w.alloc (.cells #[.slice A n c, .int .i64 K] 24)) none 0 0 0
  have hB := below_step (below_alloc w (.cells #[.slice A n c, .int .i64 K] 24)) (below_alloc _ (.cells #[.slice none 0 0, .int .i64 0] 24))
  have h1 := hI.step hB
  rw [World.size_alloc] at B2
  go_enter Try.func9, Try.ntmps9
  go_wp2_with (go_at_call 30; refine (lin_valid _ _ _ _ xs _ h1).mono ?_; rintro e w1 ⟨rfl, hb⟩; replace h1 := h1.step hb; replace B1 := B1.step hb; replace B2 := B2.step hb; have c10 := B1.c0; have c11 := B1.c1; have c20 := B2.c0; have c21 := B2.c1; have f20 := B2.f 0; have f21 := B2.f 1; have c40 := B2.s0 (.slice none 0 0); have c41 := (B2.store none 0 0 0).c1; replace hB := below_step hB hb)
  refine bodyPost_ret (v := .tuple #[.agg #[.slice none 0 0, .int .i64 0], .int .i64 1]) (by simp [results, Try.results9, go_sem, c40, c41]) rfl ?_
  exact ret_f rfl rfl (ints_nil _ _) (below_store2 hB (by omega) _ _) (.inl rfl)

theorem lin_cut_rng (A : Option Addr) (n c : Nat) (K : Int) (xs : List Int) (i : Int) (w : World) (hI : IntsAt w A n xs) (hv : validB xs K = true) (hi : i < 0 ∨ (n : Int) ≤ i) :
    Calls Try.prog 9 #[.agg #[.slice A n c, .int .i64 K], .int .i64 i] w fun e w' => RetF w e w' [] 0 6 := by
  have hsm := hI.small
  have B1 := (LBox.new w A n c K).alloc (.cells #[.slice none 0 0, .int .i64 0] 24)
  have B2 := LBox.new (w.alloc (.cells #[.slice A n c, .int .i64 K] 24)) none 0 0 0
  have hB := below_step (below_alloc w (.cells #[.slice A n c, .int .i64 K] 24)) (below_alloc _ (.cells #[.slice none 0 0, .int .i64 0] 24))
  have h1 := hI.step hB
  rw [World.size_alloc] at B2
  rcases (show i < 0 ∨ (0 ≤ i ∧ (n : Int) ≤ i) by omega) with hi | ⟨hi0, hi⟩
  all_goals
    go_enter Try.func9, Try.ntmps9
    go_wp2_with (go_at_call 30; refine (lin_valid _ _ _ _ xs _ h1).mono ?_; rintro e w1 ⟨rfl, hb⟩; replace h1 := h1.step hb; replace B1 := B1.step hb; replace B2 := B2.step hb; have c10 := B1.c0; have c11 := B1.c1; have c20 := B2.c0; have c21 := B2.c1; have f20 := B2.f 0; have f21 := B2.f 1; have c40 := B2.s0 (.slice none 0 0); have c41 := (B2.store none 0 0 0).c1; replace hB := below_step hB hb)
    refine bodyPost_ret (v := .tuple #[.agg #[.slice none 0 0, .int .i64 0], .int .i64 6]) (by simp [results, Try.results9, go_sem, c40, c41]) rfl ?_
    exact ret_f rfl rfl (ints_nil _ _) (below_store2 hB (by omega) _ _) (.inl rfl)

theorem lin_cut_form (b off n c : Nat) (K : Int) (xs : List Int) (i : Nat) (w : World) (hI : IntsAt w (some ⟨b, off, none⟩) n xs) (hbl : b < w.heap.size) (hcs : ∀ j, j < n → w.cell? ⟨b, off + j, none⟩ = some (.int .i64 (xs[j]?.getD 0)))
    (hv : validB xs K = true) (hi : i < n) (hz : xs[i]?.getD 0 ≠ 0) :
    Calls Try.prog 9 #[.agg #[.slice (some ⟨b, off, none⟩) n c, .int .i64 K], .int .i64 i] w fun e w' => RetF w e w' [] 0 4 := by
  have hsm := hI.small
  have B1 := (LBox.new w (some ⟨b, off, none⟩) n c K).alloc (.cells #[.slice none 0 0, .int .i64 0] 24)
  have B2 := LBox.new (w.alloc (.cells #[.slice (some ⟨b, off, none⟩) n c, .int .i64 K] 24)) none 0 0 0
  have hB := below_step (below_alloc w (.cells #[.slice (some ⟨b, off, none⟩) n c, .int .i64 K] 24)) (below_alloc _ (.cells #[.slice none 0 0, .int .i64 0] 24))
  have h1 := hI.step hB
  rw [World.size_alloc] at B2
  have hx := (hB.cell (p := ⟨b, off + i, none⟩) hbl).trans (hcs i hi)
  have hi1 : (i : Int) < n := by omega
  have hz1 : (xs[i]?.getD 0 != 0) = true := by simpa using hz
  have hz2 : (xs[i]?.getD 0 == 0) = false := by simpa using hz
  clear hcs hI hz
  go_enter Try.func9, Try.ntmps9
  go_wp2_with (go_at_call 30; refine (lin_valid _ _ _ _ xs _ h1).mono ?_; rintro e w1 ⟨rfl, hb⟩; replace h1 := h1.step hb; replace B1 := B1.step hb; replace B2 := B2.step hb; have c10 := B1.c0; have c11 := B1.c1; have c20 := B2.c0; have c21 := B2.c1; have f20 := B2.f 0; have f21 := B2.f 1; have c40 := B2.s0 (.slice none 0 0); have c41 := (B2.store none 0 0 0).c1; replace hB := below_step hB hb; replace hx := (hb.cell (p := ⟨b, off + i, none⟩) (by simp; omega)).trans hx)
  refine bodyPost_ret (v := .tuple #[.agg #[.slice none 0 0, .int .i64 0], .int .i64 4]) (by simp [results, Try.results9, go_sem, c40, c41]) rfl ?_
  exact ret_f rfl rfl (ints_nil _ _) (below_store2 hB (by omega) _ _) (.inl rfl)
end Go.Proofs.Ytdcapokamdmneab
