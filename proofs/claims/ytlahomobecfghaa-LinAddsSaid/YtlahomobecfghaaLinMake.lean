/-
  Const and Var of package lin and of its reference; the comparison of two answers.
-/
import Derived.Test.YtlahomobecfghaaProg
import Derived.Test.YtlahomobecfghaaLinKit
import Derived.Test.YtlahomobecfghaaLinBase
import Derived.Test.YtlahomobecfghaaLinAt
import Derived.Test.YtlahomobecfghaaLinClone
import Derived.Test.YtlahomobecfghaaLinPut
namespace Go.Proofs.Ytlahomobecfghaa
open Go.RowKit
set_option linter.unusedVariables false
set_option linter.unusedSimpArgs false

/-- Two equal answers. -/
theorem is_same (A : Option Addr) (n c : Nat) (K : Int) (xs : List Int) (A' : Option Addr) (n' c' : Nat) (e : Int) (w : World) (hI : IntsAt w A n xs) (hI' : IntsAt w A' n' xs) :
    Calls Try.prog 40 #[.agg #[.slice A n c, .int .i64 K], .int .i64 e, .agg #[.slice A' n' c', .int .i64 K], .int .i64 e] w fun e w' => e = .returned (.bool true) ∧ Below w.heap.size w w' := by
  have hB := below_step (below_alloc w (.cells #[.slice A n c, .int .i64 K] 38)) (below_alloc _ (.cells #[.slice A' n' c', .int .i64 K] 38))
  have h1 := hI.step hB
  have h2 := hI'.step hB
  clear hI hI'
  go_enter Try.func40, Try.ntmps40
  go_wp2_with (go_at_call 61; refine (ref_same _ _ _ _ xs _ _ _ _ xs _ h1 h2).mono ?_; rintro e w3 ⟨rfl, hb3⟩; rw [sameB_self]; replace hB := below_step hB hb3)
  go_ret
  exact ⟨rfl, hB⟩

def cErr (n k : Int) : Int := if 0 ≤ n ∧ n ≤ 12 then (if fitsB k = true then 0 else 3) else 6
def cXs (n k : Int) : List Int := if 0 ≤ n ∧ n ≤ 12 then (if fitsB k = true then zeros n.toNat else []) else []
def cK (n k : Int) : Int := if 0 ≤ n ∧ n ≤ 12 then (if fitsB k = true then k else 0) else 0
theorem c_rng {n k : Int} (h : ¬ (0 ≤ n ∧ n ≤ 12)) : cErr n k = 6 ∧ cXs n k = [] ∧ cK n k = 0 := by unfold cErr cXs cK; rw [if_neg h, if_neg h, if_neg h]; exact ⟨rfl, rfl, rfl⟩
theorem c_full {n k : Int} (h : 0 ≤ n ∧ n ≤ 12) (hk : fitsB k = false) : cErr n k = 3 ∧ cXs n k = [] ∧ cK n k = 0 := by
  unfold cErr cXs cK; rw [if_pos h, if_pos h, if_pos h, hk]; exact ⟨rfl, rfl, rfl⟩
theorem c_ok {m : Nat} {k : Int} (h : m ≤ 12) (hk : fitsB k = true) : cErr m k = 0 ∧ cXs m k = zeros m ∧ cK m k = k := by
  have h' : 0 ≤ (m : Int) ∧ (m : Int) ≤ 12 := by omega
  unfold cErr cXs cK; rw [if_pos h', if_pos h', if_pos h', hk]; exact ⟨rfl, by simp, rfl⟩
theorem zeros_wf (m : Nat) : ∀ x ∈ zeros m, -9223372036854775808 ≤ x ∧ x ≤ 9223372036854775807 := fun x hx => by
  have := (List.mem_replicate.1 hx).2
  omega
theorem zeros_valid {m : Nat} (h : m ≤ 12) (k : Int) : validB (zeros m) k = fitsB k := by
  cases hk : fitsB k
  · unfold validB; rw [hk]; simp
  · refine validB_true.2 ⟨by rw [zeros_len]; exact h, hk, fun x hx => ?_⟩
    rw [(List.mem_replicate.1 hx).2]; rfl

theorem ret_lin {A : Option Addr} {n c : Nat} {K err : Int} {w w' : World} {ys : List Int} {K' err' : Int} (h1 : err' = err) (h2 : K' = K) (hI : IntsAt w' A n ys) (hb : Below w.heap.size w w') :
    LinRet w (.returned (.tuple #[.agg #[.slice A n c, .int .i64 K], .int .i64 err])) w' ys K' err' := by
  subst h1; subst h2; exact ⟨A, n, c, rfl, hI, hb⟩

theorem ints_store2 {w : World} {g b n : Nat} {xs : List Int} (h : IntsAt w (some ⟨g, 0, none⟩) n xs) {x : Option Addr} (hx : x = some ⟨g, 0, none⟩) (hb : b ≠ g) (u v : Value) : IntsAt ((w.setCell ⟨b, 0, none⟩ u).setCell ⟨b, 1, none⟩ v) x n xs := by
  subst hx
  refine ⟨h.len, h.small, h.wf, fun hn => ?_⟩
  obtain ⟨b', off, e, hlt, hc⟩ := h.cells hn
  obtain ⟨rfl, rfl⟩ : g = b' ∧ 0 = off := by simpa using e
  refine ⟨g, 0, rfl, by simpa using hlt, fun j hj => ?_⟩
  rw [World.cell?_setCell_far _ ⟨b, 1, none⟩ ⟨g, 0 + j, none⟩ _ hb, World.cell?_setCell_far _ ⟨b, 0, none⟩ ⟨g, 0 + j, none⟩ _ hb]
  exact hc j hj

theorem new_ints (w : World) (xs : List Int) (n : Nat) (hl : xs.length = n) (hs : n ≤ 17592186044416) (hw : ∀ x ∈ xs, -9223372036854775808 ≤ x ∧ x ≤ 9223372036854775807) (g : Nat) (hg : g = w.heap.size) :
    IntsAt (w.alloc (.cells (xs.map (Value.int .i64)).toArray 3)) (some ⟨g, 0, none⟩) n xs := by subst hg; exact (OwnRow.new w xs n hl).ints hs hw

theorem lin_const (n k : Int) (w : World) : Calls Try.prog 34 #[.int .i64 n, .int .i64 k] w fun e w' => LinRet w e w' (cXs n k) (cK n k) (cErr n k) := by
  have hB := below_alloc w (.cells #[.slice none 0 0, .int .i64 0] 38)
  by_cases hn : 0 ≤ n ∧ n ≤ 12
  · obtain ⟨m, rfl⟩ : ∃ m : Nat, n = m := ⟨n.toNat, by omega⟩
    have hm : m ≤ 12 := by omega
    have hm1 : (m : Int) ≤ 12 := by omega
    cases hk : fitsB k
    · have HE := Lib.hid (c_full hn hk)
      clear hn
      go_enter Try.func34, Try.ntmps34
      go_wp2_with (go_at_call 26; refine (num_fits _ _).mono ?_; rintro e w' ⟨rfl, rfl⟩)
      refine bodyPost_ret (v := .tuple #[.agg #[.slice none 0 0, .int .i64 0], .int .i64 3]) (by simp [results, Try.results34, go_sem]) rfl ?_
      rw [HE.out.2.1]
      exact ret_lin HE.out.1 HE.out.2.2 (ints_nil _ _) hB
    · have HE := Lib.hid (c_ok hm hk)
      have hmk := make_ints m (by omega)
      clear hn
      go_enter Try.func34, Try.ntmps34
      go_wp2_with (go_at_call 26; refine (num_fits _ _).mono ?_; rintro e w' ⟨rfl, rfl⟩)
      refine bodyPost_ret (v := .tuple #[.agg #[.slice (some ⟨w.heap.size + 1, 0, none⟩) m m, .int .i64 k], .int .i64 0]) (by simp [results, Try.results34, go_sem]) rfl ?_
      rw [HE.out.2.1]
      exact ret_lin HE.out.1 HE.out.2.2 (new_ints (w.alloc _) (zeros m) m (zeros_len m) (by omega) (zeros_wf m) _ (by simp)) (below_step (below_alloc w _) (below_alloc _ _))
  · have HE := Lib.hid (c_rng (k := k) hn)
    rcases (show n < 0 ∨ (0 ≤ n ∧ 12 < n) by omega) with h | ⟨h, h'⟩
    all_goals
      clear hn
      go_enter Try.func34, Try.ntmps34
      go_wp2
      refine bodyPost_ret (v := .tuple #[.agg #[.slice none 0 0, .int .i64 0], .int .i64 6]) (by simp [results, Try.results34, go_sem]) rfl ?_
      rw [HE.out.2.1]
      exact ret_lin HE.out.1 HE.out.2.2 (ints_nil _ _) hB

theorem ref_const (n k : Int) (w : World) : Calls Try.prog 35 #[.int .i64 n, .int .i64 k] w fun e w' => LinRet w e w' (cXs n k) (cK n k) (cErr n k) := by
  have hB := below_alloc w (.cells #[.slice none 0 0, .int .i64 0] 38)
  by_cases hn : 0 ≤ n ∧ n ≤ 12
  · obtain ⟨m, rfl⟩ : ∃ m : Nat, n = m := ⟨n.toNat, by omega⟩
    have hm : m ≤ 12 := by omega
    have hm1 : (m : Int) ≤ 12 := by omega
    have hmk := make_ints m (by omega)
    have B1 := (LBox.new w none 0 0 0).alloc (.cells ((zeros m).map (Value.int .i64)).toArray 3)
    have h1 := new_ints (w.alloc (.cells #[.slice none 0 0, .int .i64 0] 38)) (zeros m) m (zeros_len m) (by omega) (zeros_wf m) (w.heap.size + 1) (by simp)
    have hB1 := below_step hB (below_alloc _ (.cells ((zeros m).map (Value.int .i64)).toArray 3))
    have hlt : w.heap.size + 1 < ((w.alloc (.cells #[.slice none 0 0, .int .i64 0] 38)).alloc (.cells ((zeros m).map (Value.int .i64)).toArray 3)).heap.size := by simp
    cases hk : fitsB k
    · have HE := Lib.hid (c_full hn hk)
      have hv : validB (zeros m) k = false := by rw [zeros_valid hm, hk]
      clear hn
      go_enter Try.func35, Try.ntmps35
      go_wp2_with (go_at_call 59; refine (headlandref02_fit_bad _ _ _ _ _ _ h1 hv).mono ?_; rintro e w3 ⟨rfl, hb⟩; replace B1 := B1.step hb; have c20 := B1.c0; have c21 := B1.c1; have f20 := B1.f 0; have f21 := B1.f 1; have B3 := B1.store none 0 0 0; have c30 := B1.s0 (.slice none 0 0); have c31 := B3.c1; replace hB1 := below_step hB1 hb)
      refine bodyPost_ret (v := .tuple #[.agg #[.slice none 0 0, .int .i64 0], .int .i64 3]) (by simp [results, Try.results35, go_sem, c30, c31]) rfl ?_
      rw [HE.out.2.1]
      exact ret_lin HE.out.1 HE.out.2.2 (ints_nil _ _) (below_store2 hB1 (Nat.le_refl _) _ _)
    · have HE := Lib.hid (c_ok hm hk)
      have hv : validB (zeros m) k = true := by rw [zeros_valid hm, hk]
      clear hn
      go_enter Try.func35, Try.ntmps35
      go_wp2_with (go_at_call 59; refine (headlandref02_fit_ok _ _ _ _ _ _ h1 hv).mono ?_; rintro e w3 ⟨rfl, hb⟩; replace B1 := B1.step hb; have c20 := B1.c0; have c21 := B1.c1; have f20 := B1.f 0; have f21 := B1.f 1; have B3 := B1.store (some ⟨w.heap.size + 1, 0, none⟩) m m k; have c30 := B1.s0 (.slice (some ⟨w.heap.size + 1, 0, none⟩) m m); have c31 := B3.c1; replace h1 := h1.step hb; have hsz := hb.size; replace hB1 := below_step hB1 hb)
      refine bodyPost_ret (v := .tuple #[.agg #[.slice (some ⟨w.heap.size + 1, 0, none⟩) m m, .int .i64 k], .int .i64 0]) (by simp [results, Try.results35, go_sem, c30, c31]) rfl ?_
      rw [HE.out.2.1]
      exact ret_lin HE.out.1 HE.out.2.2 (ints_store2 h1 rfl (by omega) _ _) (below_store2 hB1 (Nat.le_refl _) _ _)
  · have HE := Lib.hid (c_rng (k := k) hn)
    rcases (show n < 0 ∨ (0 ≤ n ∧ 12 < n) by omega) with h | ⟨h, h'⟩
    all_goals
      clear hn
      go_enter Try.func35, Try.ntmps35
      go_wp2
      refine bodyPost_ret (v := .tuple #[.agg #[.slice none 0 0, .int .i64 0], .int .i64 6]) (by simp [results, Try.results35, go_sem]) rfl ?_
      rw [HE.out.2.1]
      exact ret_lin HE.out.1 HE.out.2.2 (ints_nil _ _) hB

def vErr (n i : Int) : Int := if 0 ≤ n ∧ n ≤ 12 ∧ 0 ≤ i ∧ i < n then 0 else 6
def vXs (n i : Int) : List Int := if 0 ≤ n ∧ n ≤ 12 ∧ 0 ≤ i ∧ i < n then (zeros n.toNat).set i.toNat 1 else []
theorem v_bad {n i : Int} (h : ¬ (0 ≤ n ∧ n ≤ 12 ∧ 0 ≤ i ∧ i < n)) : vErr n i = 6 ∧ vXs n i = [] := by unfold vErr vXs; rw [if_neg h, if_neg h]; exact ⟨rfl, rfl⟩
theorem v_ok {m j : Nat} (h : m ≤ 12) (hj : j < m) : vErr m j = 0 ∧ vXs m j = (zeros m).set j 1 := by unfold vErr vXs; rw [if_pos (by omega), if_pos (by omega)]; exact ⟨rfl, by simp⟩
theorem set_wf {xs : List Int} (h : ∀ x ∈ xs, -9223372036854775808 ≤ x ∧ x ≤ 9223372036854775807) (j : Nat) {v : Int} (hv : -9223372036854775808 ≤ v ∧ v ≤ 9223372036854775807) : ∀ x ∈ xs.set j v, -9223372036854775808 ≤ x ∧ x ≤ 9223372036854775807 := fun x hx => by
  rcases List.mem_or_eq_of_mem_set hx with h1 | h1
  · exact h x h1
  · subst h1; exact hv

theorem lin_var (n i : Int) (w : World) : Calls Try.prog 36 #[.int .i64 n, .int .i64 i] w fun e w' => LinRet w e w' (vXs n i) 0 (vErr n i) := by
  have hB := below_alloc w (.cells #[.slice none 0 0, .int .i64 0] 38)
  by_cases hn : 0 ≤ n ∧ n ≤ 12 ∧ 0 ≤ i ∧ i < n
  · obtain ⟨m, rfl⟩ : ∃ m : Nat, n = m := ⟨n.toNat, by omega⟩
    obtain ⟨j, rfl⟩ : ∃ j : Nat, i = j := ⟨i.toNat, by omega⟩
    have hm : m ≤ 12 := by omega
    have hj : j < m := by omega
    have hm1 : (m : Int) ≤ 12 := by omega
    have hj1 : (j : Int) < m := by omega
    have HE := Lib.hid (v_ok hm hj)
    have hmk := make_ints m (by omega)
    have R1 := OwnRow.new (w.alloc (.cells #[.slice none 0 0, .int .i64 0] 38)) (zeros m) m (zeros_len m)
    rw [World.size_alloc] at R1
    have hz : (zeros m)[j]? = some 0 := by simp [zeros, hj]
    clear hn
    go_enter Try.func36, Try.ntmps36
    go_wp2
    refine bodyPost_ret (v := .tuple #[.agg #[.slice (some ⟨w.heap.size + 1, 0, none⟩) m m, .int .i64 0], .int .i64 0]) (by simp [results, Try.results36, go_sem]) rfl ?_
    rw [HE.out.2, ← List.map_set]
    exact ret_lin HE.out.1 rfl ((new_ints (w.alloc _) ((zeros m).set j 1) m (by simp [zeros_len]) (by omega) (set_wf (zeros_wf m) j (by omega)) (w.heap.size + 1) (by simp)).step (below_alloc _ _)) (below_step (below_step (below_alloc _ _) (below_alloc _ _)) (below_alloc _ _))
  · have HE := Lib.hid (v_bad hn)
    rcases (show n < 0 ∨ (0 ≤ n ∧ 12 < n) ∨ (0 ≤ n ∧ n ≤ 12 ∧ i < 0) ∨ (0 ≤ n ∧ n ≤ 12 ∧ 0 ≤ i ∧ n ≤ i) by omega) with h | ⟨h, h'⟩ | ⟨h, h', h''⟩ | ⟨h, h', h'', h3⟩
    all_goals
      clear hn
      go_enter Try.func36, Try.ntmps36
      go_wp2
      refine bodyPost_ret (v := .tuple #[.agg #[.slice none 0 0, .int .i64 0], .int .i64 6]) (by simp [results, Try.results36, go_sem]) rfl ?_
      rw [HE.out.2]
      exact ret_lin HE.out.1 rfl (ints_nil _ _) hB
theorem ref_var (n i : Int) (w : World) : Calls Try.prog 37 #[.int .i64 n, .int .i64 i] w fun e w' => LinRet w e w' (vXs n i) 0 (vErr n i) := by
  have hB := below_alloc w (.cells #[.slice none 0 0, .int .i64 0] 38)
  by_cases hn : 0 ≤ n ∧ n ≤ 12 ∧ 0 ≤ i ∧ i < n
  · obtain ⟨m, rfl⟩ : ∃ m : Nat, n = m := ⟨n.toNat, by omega⟩
    obtain ⟨j, rfl⟩ : ∃ j : Nat, i = j := ⟨i.toNat, by omega⟩
    have hm : m ≤ 12 := by omega
    have hj : j < m := by omega
    have hm1 : (m : Int) ≤ 12 := by omega
    have hj1 : (j : Int) < m := by omega
    have HE := Lib.hid (v_ok hm hj)
    have hmk := make_ints m (by omega)
    have R1 := OwnRow.new (w.alloc (.cells #[.slice none 0 0, .int .i64 0] 38)) (zeros m) m (zeros_len m)
    rw [World.size_alloc] at R1
    have hz : (zeros m)[j]? = some 0 := by simp [zeros, hj]
    clear hn
    go_enter Try.func37, Try.ntmps37
    go_wp2
    refine bodyPost_ret (v := .tuple #[.agg #[.slice (some ⟨w.heap.size + 1, 0, none⟩) m m, .int .i64 0], .int .i64 0]) (by simp [results, Try.results37, go_sem]) rfl ?_
    rw [HE.out.2, ← List.map_set]
    exact ret_lin HE.out.1 rfl ((new_ints (w.alloc _) ((zeros m).set j 1) m (by simp [zeros_len]) (by omega) (set_wf (zeros_wf m) j (by omega)) (w.heap.size + 1) (by simp)).step (below_alloc _ _)) (below_step (below_step (below_alloc _ _) (below_alloc _ _)) (below_alloc _ _))
  · have HE := Lib.hid (v_bad hn)
    rcases (show n < 0 ∨ (0 ≤ n ∧ 12 < n) ∨ (0 ≤ n ∧ n ≤ 12 ∧ i < 0) ∨ (0 ≤ n ∧ n ≤ 12 ∧ 0 ≤ i ∧ n ≤ i) by omega) with h | ⟨h, h'⟩ | ⟨h, h', h''⟩ | ⟨h, h', h'', h3⟩
    all_goals
      clear hn
      go_enter Try.func37, Try.ntmps37
      go_wp2
      refine bodyPost_ret (v := .tuple #[.agg #[.slice none 0 0, .int .i64 0], .int .i64 6]) (by simp [results, Try.results37, go_sem]) rfl ?_
      rw [HE.out.2]
      exact ret_lin HE.out.1 rfl (ints_nil _ _) hB
end Go.Proofs.Ytlahomobecfghaa
