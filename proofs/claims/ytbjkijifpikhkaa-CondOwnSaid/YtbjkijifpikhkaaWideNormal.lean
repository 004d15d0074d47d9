/-
  wide.Normal: the three rules.
-/
import Derived.Test.YtbjkijifpikhkaaProg
import Derived.Test.YtbjkijifpikhkaaKit
import Derived.Test.YtbjkijifpikhkaaLinKit
import Derived.Test.YtbjkijifpikhkaaLinClone
import Derived.Test.YtbjkijifpikhkaaLinPut
import Derived.Test.YtbjkijifpikhkaaCondKit
import Derived.Test.YtbjkijifpikhkaaWideBase
import Derived.Deep.RegionHeld3
namespace Go.Proofs.Ytbjkijifpikhkaa
open Go.RowKit
set_option linter.unusedVariables false
set_option linter.unusedSimpArgs false

/-- The answer is a condition, in a row of its own, and a state. -/
def CondRet (w : World) (e : Ending) (w' : World) (q M : Int) (X : List Int) (K s : Int) : Prop :=
  ∃ A n c, e = .returned (.tuple #[condV q M A n c K, .int .i64 s]) ∧ IntsAt w' A n X ∧ Below w.heap.size w w' ∧ (n = 0 ∨ ∃ g, A = some ⟨g, 0, none⟩ ∧ w.heap.size ≤ g ∧ OwnRow w' g n X)
theorem OwnRow.store4 {w : World} {g n b : Nat} {xs : List Int} (h : OwnRow w g n xs) (hne : b ≠ g) (u v x y : Value) : OwnRow ((((w.setCell ⟨b, 0, none⟩ u).setCell ⟨b, 1, none⟩ v).setCell ⟨b, 2, none⟩ x).setCell ⟨b, 3, none⟩ y) g n xs :=
  (((h.other (a := ⟨b, 0, none⟩) (fun e => hne e.symm) u).other (a := ⟨b, 1, none⟩) (fun e => hne e.symm) v).other (a := ⟨b, 2, none⟩) (fun e => hne e.symm) x).other (a := ⟨b, 3, none⟩) (fun e => hne e.symm) y

/-- A shape as a value. -/
abbrev shapeV (q M : Int) (A : Option Addr) (n c : Nat) (K g : Int) : Value := .agg #[.int .i64 q, .int .i64 M, .slice A n c, .int .i64 K, .int .i64 g]
def SBox (w : World) (b : Nat) (q M : Int) (A : Option Addr) (n c : Nat) (K g : Int) : Prop := w.heap[b]? = some (.cells #[.int .i64 q, .int .i64 M, .slice A n c, .int .i64 K, .int .i64 g] 66 (0, 0))
section
variable {w w' : World} {b : Nat} {q M : Int} {A : Option Addr} {n c : Nat} {K g : Int}
theorem SBox.new (w : World) (q M : Int) (A : Option Addr) (n c : Nat) (K g : Int) : SBox (w.alloc (.cells #[.int .i64 q, .int .i64 M, .slice A n c, .int .i64 K, .int .i64 g] 66)) w.heap.size q M A n c K g := heap_alloc_new w _
theorem SBox.lt (h : SBox w b q M A n c K g) : b < w.heap.size := (Array.getElem?_eq_some_iff.1 h).1
theorem SBox.step (h : SBox w b q M A n c K g) (hb : Below w.heap.size w w') : SBox w' b q M A n c K g := (hb.block b h.lt).trans h
theorem SBox.c1 (h : SBox w b q M A n c K g) : w.cell? ⟨b, 1, none⟩ = some (.int .i64 M) := by rw [cell_of_row w b 1 _ _ (0, 0) h]; rfl
theorem SBox.c2 (h : SBox w b q M A n c K g) : w.cell? ⟨b, 2, none⟩ = some (.slice A n c) := by rw [cell_of_row w b 2 _ _ (0, 0) h]; rfl
theorem SBox.c3 (h : SBox w b q M A n c K g) : w.cell? ⟨b, 3, none⟩ = some (.int .i64 K) := by rw [cell_of_row w b 3 _ _ (0, 0) h]; rfl
theorem SBox.c4 (h : SBox w b q M A n c K g) : w.cell? ⟨b, 4, none⟩ = some (.int .i64 g) := by rw [cell_of_row w b 4 _ _ (0, 0) h]; rfl
end

set_option maxHeartbeats 4000000 in
theorem at_least (q M : Int) (A : Option Addr) (n c : Nat) (K : Int) (xs : List Int) (g : Nat) (hg : g ≤ 4611686018427387904) (hK : -4611686018427387904 ≤ K ∧ K ≤ 4611686018427387904) (hx : ∀ x ∈ xs, -4611686018427387904 ≤ x ∧ x ≤ 4611686018427387904) (w : World) (hI : IntsAt w A n xs) :
    Calls Try.prog 60 #[shapeV q M A n c K g] w fun e w' => CondRet w e w' 0 0 (if g = 0 then [] else quoL n xs g) (if g = 0 then 0 else K / g) (if g = 0 then (if 0 ≤ K then 1 else -1) else 0) := by
  have hB := below_step (below_alloc w (.cells #[.int .i64 q, .int .i64 M, .slice A n c, .int .i64 K, .int .i64 g] 66)) (below_alloc _ (.cells #[.int .i64 0, .int .i64 0, .slice none 0 0, .int .i64 0] 26))
  have h1 := hI.step hB
  have B1 := (SBox.new w q M A n c K g).step (below_alloc _ (.cells #[.int .i64 0, .int .i64 0, .slice none 0 0, .int .i64 0] 26))
  have B2 := CBox.new (w.alloc (.cells #[.int .i64 q, .int .i64 M, .slice A n c, .int .i64 K, .int .i64 g] 66)) 0 0 none 0 0 0
  rw [World.size_alloc] at B2
  by_cases h0 : g = 0
  · subst h0
    simp only [if_true]
    obtain ⟨s, hs⟩ : ∃ s : Int, (if 0 ≤ K then (1 : Int) else -1) = s := ⟨_, rfl⟩
    have HS := Lib.hid (show (if decide (0 ≤ K) = true then (1 : Int) else -1) = s by rw [← hs]; simp)
    rw [hs]
    clear hs
    go_enter Try.func60, Try.ntmps60
    go_wp2_with (go_at_call 65; refine (wide_verdict _ _).mono ?_; rintro e w1 ⟨rfl, hb⟩; rw [HS.out]; replace hB := below_step hB hb; replace B2 := B2.step hb; have c0 := B2.c0; have c1 := B2.c1; have c2 := B2.c2; have c3 := B2.c3; have f0 := B2.f 0; have f1 := B2.f 1; have f2 := B2.f 2; have f3 := B2.f 3; obtain ⟨e0, e1, e2, e3⟩ := B2.four 0 0 none 0 0 0)
    refine bodyPost_ret (v := .tuple #[condV 0 0 none 0 0 0, .int .i64 s]) (by simp [results, Try.results60, go_sem, e0, e1, e2, e3]) rfl ?_
    exact ⟨none, 0, 0, rfl, ints_nil _ _, below_store4 hB (by omega) _ _ _ _, .inl rfl⟩
  · simp only [if_neg h0]
    have q0 : ((g : Int) == 0) = false := by simpa using h0
    have hg1 : (1 : Int) ≤ g := by omega
    have hg0 : (g : Int) ≠ 0 := by omega
    have c12 := B1.c2
    have c13 := B1.c3
    have c14 := B1.c4
    have hsm := hI.small
    obtain ⟨w1, hw1⟩ : ∃ w1, w1 = ((w.alloc (.cells #[.int .i64 q, .int .i64 M, .slice A n c, .int .i64 K, .int .i64 g] 66)).alloc (.cells #[.int .i64 0, .int .i64 0, .slice none 0 0, .int .i64 0] 26)) := ⟨_, rfl⟩
    rw [← hw1] at hB h1 B1 B2 c12 c13 c14
    have HQ := Lib.hid (wide_quotients A n c xs g hg0 (by omega) hx w1.drew (h1.step (Below.refl _ w1).drew))
    have HW := Lib.hid (quo_wf (n := n) hg0 hx)
    have l1 := B1.lt
    have l2 := B2.lt
    generalize hX : quoL n xs g = X at *
    obtain ⟨k, hk⟩ : ∃ k, K / (g : Int) = k := ⟨_, rfl⟩
    have HK := Lib.hid hk
    rw [hk]
    clear hI hX hk hx h0
    go_enter Try.func60, Try.ntmps60
    go_wp2
    rw [← hw1]
    clear hw1
    have n1 : w.heap.size ≠ w.heap.size + 1 := by omega
    go_region_held3 (fun W => W.cell? ⟨w.heap.size, 2, none⟩ = some (.slice A n c) ∧ W.cell? ⟨w.heap.size, 3, none⟩ = some (.int .i64 K) ∧ W.cell? ⟨w.heap.size, 4, none⟩ = some (.int .i64 g)) (go_keep)
      (first
        | (go_at_call 66; refine HQ.out.mono ?_; rintro e w2 ⟨g5, rfl, hg5, O5, hb2⟩; have hb2' := (Below.refl w1.heap.size w1).drew.trans hb2; have k0 := (hb2'.cell (p := ⟨w.heap.size, 2, none⟩) l1).trans c12; have k1 := (hb2'.cell (p := ⟨w.heap.size, 3, none⟩) l1).trans c13; have k2 := (hb2'.cell (p := ⟨w.heap.size, 4, none⟩) l1).trans c14; have B4 := B2.step hb2'; have d0 := B4.c0; have d1 := B4.c1; have d2 := B4.c2; have d3 := B4.c3; have f0 := B4.f 0; have f1 := B4.f 1; have f2 := B4.f 2; have f3 := B4.f 3)
        | (go_at_call 67; refine (wide_floor _ _ (by omega) (by omega) (by omega) hg1 _).mono ?_; rintro e w' ⟨rfl, rfl⟩; rw [HK.out]))
    all_goals
      obtain ⟨e0, e1, e2, e3⟩ := B4.four 0 0 (some ⟨g5, 0, none⟩) n n k
      have hEnd := below_step hB hb2'
      have hg6 : w1.heap.size ≤ g5 := hg5
      have R := O5.store4 (b := w.heap.size + 1) (by omega) (.int .i64 0) (.int .i64 0) (.slice (some ⟨g5, 0, none⟩) n n) (.int .i64 k)
      clear k0 k1 k2 c12 c13 c14
      go_wp2
      refine bodyPost_ret (v := .tuple #[condV 0 0 (some ⟨g5, 0, none⟩) n n k, .int .i64 0]) (by simp [results, Try.results60, go_sem, e0, e1, e2, e3]) rfl ?_
      exact ⟨some ⟨g5, 0, none⟩, n, n, rfl, R.ints hsm (fun x hx => by have := HW.out x hx; omega), below_store4 hEnd (by omega) _ _ _ _, .inr ⟨g5, rfl, by omega, R⟩⟩

set_option maxHeartbeats 4000000 in
theorem equal_zero (q M : Int) (A : Option Addr) (n c : Nat) (K : Int) (xs : List Int) (hK : -4611686018427387904 ≤ K ∧ K ≤ 4611686018427387904) (w : World) (hI : IntsAt w A n xs) :
    Calls Try.prog 61 #[shapeV q M A n c K 0] w fun e w' => CondRet w e w' 0 0 [] 0 (if K = 0 then 1 else -1) := by
  have hB := below_step (below_alloc w (.cells #[.int .i64 q, .int .i64 M, .slice A n c, .int .i64 K, .int .i64 0] 66)) (below_alloc _ (.cells #[.int .i64 0, .int .i64 0, .slice none 0 0, .int .i64 0] 26))
  have B2 := CBox.new (w.alloc (.cells #[.int .i64 q, .int .i64 M, .slice A n c, .int .i64 K, .int .i64 0] 66)) 0 0 none 0 0 0
  rw [World.size_alloc] at B2
  obtain ⟨s, hs⟩ : ∃ s : Int, (if K = 0 then (1 : Int) else -1) = s := ⟨_, rfl⟩
  have HS := Lib.hid (show (if (K == 0) = true then (1 : Int) else -1) = s by rw [← hs]; simp)
  rw [hs]
  clear hs
  go_enter Try.func61, Try.ntmps61
  go_wp2_with (go_at_call 65; refine (wide_verdict _ _).mono ?_; rintro e w1 ⟨rfl, hb⟩; rw [HS.out]; replace hB := below_step hB hb; replace B2 := B2.step hb; have c0 := B2.c0; have c1 := B2.c1; have c2 := B2.c2; have c3 := B2.c3; have f0 := B2.f 0; have f1 := B2.f 1; have f2 := B2.f 2; have f3 := B2.f 3; obtain ⟨e0, e1, e2, e3⟩ := B2.four 0 0 none 0 0 0)
  refine bodyPost_ret (v := .tuple #[condV 0 0 none 0 0 0, .int .i64 s]) (by simp [results, Try.results61, go_sem, e0, e1, e2, e3]) rfl ?_
  exact ⟨none, 0, 0, rfl, ints_nil _ _, below_store4 hB (by omega) _ _ _ _, .inl rfl⟩

set_option maxHeartbeats 4000000 in
theorem equal_never (q M : Int) (A : Option Addr) (n c : Nat) (K : Int) (xs : List Int) (g : Nat) (hg : g ≤ 4611686018427387904) (hg1 : 1 ≤ g) (hK : -4611686018427387904 ≤ K ∧ K ≤ 4611686018427387904) (hr : K.tmod g ≠ 0) (w : World) (hI : IntsAt w A n xs) :
    Calls Try.prog 61 #[shapeV q M A n c K g] w fun e w' => CondRet w e w' 0 0 [] 0 (-1) := by
  have hB := below_step (below_alloc w (.cells #[.int .i64 q, .int .i64 M, .slice A n c, .int .i64 K, .int .i64 g] 66)) (below_alloc _ (.cells #[.int .i64 0, .int .i64 0, .slice none 0 0, .int .i64 0] 26))
  have h1 := hI.step hB
  have B1 := (SBox.new w q M A n c K g).step (below_alloc _ (.cells #[.int .i64 0, .int .i64 0, .slice none 0 0, .int .i64 0] 26))
  have B2 := CBox.new (w.alloc (.cells #[.int .i64 q, .int .i64 M, .slice A n c, .int .i64 K, .int .i64 g] 66)) 0 0 none 0 0 0
  rw [World.size_alloc] at B2
  have q0 : ((g : Int) == 0) = false := by simp; omega
  have hg0 : (g : Int) ≠ 0 := by omega
  have q1 : (K.tmod g != 0) = true := by simpa using hr
  have q2 : (K.tmod g == 0) = false := by simpa using hr
  have hm : (K.tmod (g : Int)).natAbs ≤ K.natAbs := by rw [Int.natAbs_tmod]; exact Nat.mod_le _ _
  have hw : IntKind.i64.wrap (K.tmod g) = K.tmod g := IntWalk.i64_in _ (by omega)
  clear hr hm
  go_enter Try.func61, Try.ntmps61
  go_wp2
  refine bodyPost_ret (v := .tuple #[condV 0 0 none 0 0 0, .int .i64 (-1)]) (by simp [results, Try.results61, go_sem]) rfl ?_
  exact ⟨none, 0, 0, rfl, ints_nil _ _, hB, .inl rfl⟩

/-- The divisor of an equation: the first coefficient becomes positive. -/
def leadBy (xs : List Int) (g : Nat) : Int := if leadI xs < 0 then -(g : Int) else g

set_option maxHeartbeats 8000000 in
theorem equal_open (q M : Int) (A : Option Addr) (n c : Nat) (K : Int) (xs : List Int) (g : Nat) (hg : g ≤ 4611686018427387904) (hg1 : 1 ≤ g) (hK : -4611686018427387904 ≤ K ∧ K ≤ 4611686018427387904) (hr : K.tmod g = 0) (hx : ∀ x ∈ xs, -4611686018427387904 ≤ x ∧ x ≤ 4611686018427387904) (w : World) (hI : IntsAt w A n xs) :
    Calls Try.prog 61 #[shapeV q M A n c K g] w fun e w' => CondRet w e w' 1 0 (quoL n xs (leadBy xs g)) (K.tdiv (leadBy xs g)) 0 := by
  have hB := below_step (below_alloc w (.cells #[.int .i64 q, .int .i64 M, .slice A n c, .int .i64 K, .int .i64 g] 66)) (below_alloc _ (.cells #[.int .i64 0, .int .i64 0, .slice none 0 0, .int .i64 0] 26))
  have h1 := hI.step hB
  have B1 := (SBox.new w q M A n c K g).step (below_alloc _ (.cells #[.int .i64 0, .int .i64 0, .slice none 0 0, .int .i64 0] 26))
  have B2 := CBox.new (w.alloc (.cells #[.int .i64 q, .int .i64 M, .slice A n c, .int .i64 K, .int .i64 g] 66)) 0 0 none 0 0 0
  rw [World.size_alloc] at B2
  have q0 : ((g : Int) == 0) = false := by simp; omega
  have hg0 : (g : Int) ≠ 0 := by omega
  have hgN : g ≠ 0 := by omega
  have hwm : IntKind.i64.wrap (K.tmod g) = 0 := by rw [hr]; rfl
  have HLE := Lib.hid (rfl : leadI xs = leadI xs)
  have c12 := B1.c2
  have c13 := B1.c3
  have c14 := B1.c4
  have hsm := hI.small
  have hbb : leadBy xs g ≠ 0 ∧ -4611686018427387904 ≤ leadBy xs g ∧ leadBy xs g ≤ 4611686018427387904 := by unfold leadBy; split <;> omega
  obtain ⟨w1, hw1⟩ : ∃ w1, w1 = ((w.alloc (.cells #[.int .i64 q, .int .i64 M, .slice A n c, .int .i64 K, .int .i64 g] 66)).alloc (.cells #[.int .i64 0, .int .i64 0, .slice none 0 0, .int .i64 0] 26)) := ⟨_, rfl⟩
  rw [← hw1] at hB h1 B1 B2 c12 c13 c14
  have HQ := Lib.hid (wide_quotients A n c xs (leadBy xs g) hbb.1 hbb.2 hx w1.drew (h1.step (Below.refl _ w1).drew))
  have HLD := Lib.hid (wide_lead A n c xs w1 h1)
  have HW := Lib.hid (quo_wf (n := n) hbb.1 hx)
  have l1 := B1.lt
  have l2 := B2.lt
  obtain ⟨by_, hby⟩ : ∃ b, leadBy xs g = b := ⟨_, rfl⟩
  obtain ⟨ld, hld⟩ : ∃ l, leadI xs = l := ⟨_, rfl⟩
  have hby2 : by_ = if ld < 0 then -(g : Int) else g := by rw [← hby, ← hld]; rfl
  rw [hby] at HQ HW hbb ⊢
  rw [hld] at HLD
  generalize hX : quoL n xs by_ = X at *
  have hkd := tdiv_bd K by_ hbb.1
  obtain ⟨k, hk⟩ : ∃ k, K.tdiv by_ = k := ⟨_, rfl⟩
  rw [hk] at hkd ⊢
  have hkw : IntKind.i64.wrap (K.tdiv by_) = k := by rw [hk]; exact IntWalk.i64_in _ (by omega)
  have hb0 : (by_ == 0) = false := by simpa using hbb.1
  have hbne := hbb.1
  have HBB := Lib.hid hbb
  have HG := Lib.hid (And.intro hg hg1)
  have hwn : IntKind.i64.wrap (-(g : Int)) = -(g : Int) := IntWalk.i64_in _ (by omega)
  have HKR := Lib.hid hK
  clear hI hX hx hby hld HLE hbb hk hkd hg hg1 hwm hK
  by_cases hneg : ld < 0
  · rw [if_pos hneg] at hby2
    subst hby2
    have hkw2 : IntKind.i64.wrap (-(K.tdiv (g : Int))) = k := by rw [← Int.tdiv_neg]; exact hkw
    go_enter Try.func61, Try.ntmps61
    go_wp2_with (go_at_call 68; rw [← hw1]; refine HLD.out.mono ?_; rintro e w' ⟨rfl, rfl⟩)
    rw [← hw1]
    clear hw1
    have n1 : w.heap.size ≠ w.heap.size + 1 := by omega
    go_region_held3 (fun W => W.cell? ⟨w.heap.size, 2, none⟩ = some (.slice A n c) ∧ W.cell? ⟨w.heap.size, 3, none⟩ = some (.int .i64 K) ∧ W.cell? ⟨w.heap.size, 4, none⟩ = some (.int .i64 g)) (go_keep)
      (first
        | (go_at_call 66; refine HQ.out.mono ?_; rintro e w2 ⟨g5, rfl, hg5, O5, hb2⟩; have hb2' := (Below.refl w1.heap.size w1).drew.trans hb2; have k0 := (hb2'.cell (p := ⟨w.heap.size, 2, none⟩) l1).trans c12; have k1 := (hb2'.cell (p := ⟨w.heap.size, 3, none⟩) l1).trans c13; have k2 := (hb2'.cell (p := ⟨w.heap.size, 4, none⟩) l1).trans c14; have B4 := B2.step hb2'; have d0 := B4.c0; have d1 := B4.c1; have d2 := B4.c2; have d3 := B4.c3; have f0 := B4.f 0; have f1 := B4.f 1; have f2 := B4.f 2; have f3 := B4.f 3))
    all_goals
      obtain ⟨e0, e1, e2, e3⟩ := B4.four 1 0 (some ⟨g5, 0, none⟩) n n k
      have hEnd := below_step hB hb2'
      have hg6 : w1.heap.size ≤ g5 := hg5
      have R := O5.store4 (b := w.heap.size + 1) (by omega) (.int .i64 1) (.int .i64 0) (.slice (some ⟨g5, 0, none⟩) n n) (.int .i64 k)
      clear k0 k1 k2 c12 c13 c14
      go_wp2
      refine bodyPost_ret (v := .tuple #[condV 1 0 (some ⟨g5, 0, none⟩) n n k, .int .i64 0]) (by simp [results, Try.results61, go_sem, e0, e1, e2, e3]) rfl ?_
      exact ⟨some ⟨g5, 0, none⟩, n, n, rfl, R.ints hsm (fun x hx => by have := HW.out x hx; omega), below_store4 hEnd (by omega) _ _ _ _, .inr ⟨g5, rfl, by omega, R⟩⟩
  · rw [if_neg hneg] at hby2
    subst hby2
    go_enter Try.func61, Try.ntmps61
    go_wp2_with (go_at_call 68; rw [← hw1]; refine HLD.out.mono ?_; rintro e w' ⟨rfl, rfl⟩)
    rw [← hw1]
    clear hw1
    have n1 : w.heap.size ≠ w.heap.size + 1 := by omega
    go_region_held3 (fun W => W.cell? ⟨w.heap.size, 2, none⟩ = some (.slice A n c) ∧ W.cell? ⟨w.heap.size, 3, none⟩ = some (.int .i64 K) ∧ W.cell? ⟨w.heap.size, 4, none⟩ = some (.int .i64 g)) (go_keep)
      (first
        | (go_at_call 66; refine HQ.out.mono ?_; rintro e w2 ⟨g5, rfl, hg5, O5, hb2⟩; have hb2' := (Below.refl w1.heap.size w1).drew.trans hb2; have k0 := (hb2'.cell (p := ⟨w.heap.size, 2, none⟩) l1).trans c12; have k1 := (hb2'.cell (p := ⟨w.heap.size, 3, none⟩) l1).trans c13; have k2 := (hb2'.cell (p := ⟨w.heap.size, 4, none⟩) l1).trans c14; have B4 := B2.step hb2'; have d0 := B4.c0; have d1 := B4.c1; have d2 := B4.c2; have d3 := B4.c3; have f0 := B4.f 0; have f1 := B4.f 1; have f2 := B4.f 2; have f3 := B4.f 3))
    all_goals
      obtain ⟨e0, e1, e2, e3⟩ := B4.four 1 0 (some ⟨g5, 0, none⟩) n n k
      have hEnd := below_step hB hb2'
      have hg6 : w1.heap.size ≤ g5 := hg5
      have R := O5.store4 (b := w.heap.size + 1) (by omega) (.int .i64 1) (.int .i64 0) (.slice (some ⟨g5, 0, none⟩) n n) (.int .i64 k)
      clear k0 k1 k2 c12 c13 c14
      go_wp2
      refine bodyPost_ret (v := .tuple #[condV 1 0 (some ⟨g5, 0, none⟩) n n k, .int .i64 0]) (by simp [results, Try.results61, go_sem, e0, e1, e2, e3]) rfl ?_
      exact ⟨some ⟨g5, 0, none⟩, n, n, rfl, R.ints hsm (fun x hx => by have := HW.out x hx; omega), below_store4 hEnd (by omega) _ _ _ _, .inr ⟨g5, rfl, by omega, R⟩⟩
end Go.Proofs.Ytbjkijifpikhkaa
