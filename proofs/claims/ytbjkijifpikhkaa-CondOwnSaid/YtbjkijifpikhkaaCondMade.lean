/-
  The reference of layer 3: Made at the kinds Ge and Eq.
-/
import Derived.Test.YtbjkijifpikhkaaProg
import Derived.Test.YtbjkijifpikhkaaKit
import Derived.Test.YtbjkijifpikhkaaNumMath
import Derived.Test.YtbjkijifpikhkaaNumBase
import Derived.Test.YtbjkijifpikhkaaNumGcd
import Derived.Test.YtbjkijifpikhkaaNumRef
import Derived.Test.YtbjkijifpikhkaaLinKit
import Derived.Test.YtbjkijifpikhkaaLinClone
import Derived.Test.YtbjkijifpikhkaaLinPut
import Derived.Test.YtbjkijifpikhkaaLinMake
import Derived.Test.YtbjkijifpikhkaaCondKit
import Derived.Test.YtbjkijifpikhkaaCondNormal
import Derived.Test.YtbjkijifpikhkaaCondRef
import Derived.Test.YtbjkijifpikhkaaCondOver
import Derived.Test.YtbjkijifpikhkaaWideBase
import Derived.Test.YtbjkijifpikhkaaWideNormal
import Derived.Test.YtbjkijifpikhkaaWideAll
import Derived.Deep.RegionHeld3
namespace Go.Proofs.Ytbjkijifpikhkaa
open Go.RowKit
set_option linter.unusedVariables false
set_option linter.unusedSimpArgs false

theorem CBox.step' {w : World} {b : Nat} {q M : Int} {A : Option Addr} {n c : Nat} {K : Int} (h : CBox w b q M A n c K) {a : Addr} (ha : b ≠ a.block) (u : Value) : CBox (w.setCell a u) b q M A n c K := (Below.heap_setCell w a u b ha).trans h
theorem gcdVal_A {xs : List Int} (hx : ∀ x ∈ xs, -4611686018427387904 ≤ x ∧ x ≤ 4611686018427387904) : gcdVal xs = (gcdA 0 xs : Nat) ∧ gcdErr xs = 0 := by
  have h : xs.foldl gcdStep 0 = gcdA 0 xs := rfl
  have h2 := gcd_lim xs hx
  unfold gcdVal gcdErr
  rw [h, if_neg (by omega), if_neg (by omega)]
  exact ⟨rfl, rfl⟩

theorem ref_gcdA (w : World) (A : Option Addr) (n c : Nat) (xs : List Int) (hx : ∀ x ∈ xs, -4611686018427387904 ≤ x ∧ x ≤ 4611686018427387904) (h : IntsAt w A n xs) :
    Calls Try.prog 47 #[.slice A n c] w fun e w' => e = .returned (.tuple #[.int .i64 (gcdA 0 xs : Nat), .int .i64 0]) ∧ Below w.heap.size w w' :=
  (ref_gcd w _ A n c xs h).mono (by rintro e w' ⟨rfl, k, rfl⟩; rw [(gcdVal_A hx).1, (gcdVal_A hx).2]; exact ⟨rfl, below_of_drewN k⟩)

section
variable (M : Int) (A : Option Addr) (n c : Nat) (K : Int) (xs : List Int) (hK : -4611686018427387904 ≤ K ∧ K ≤ 4611686018427387904) (hx : ∀ x ∈ xs, -4611686018427387904 ≤ x ∧ x ≤ 4611686018427387904) (w : World) (hI : IntsAt w A n xs)
include hK hx hI


omit hK in
set_option maxHeartbeats 4000000 in
set_option maxRecDepth 100000 in
theorem made_zero_ge (h0 : gcdA 0 xs = 0) : Calls Try.prog 30 #[condV 0 M A n c K] w fun e w' => CondRet w e w' 0 0 [] 0 (if 0 ≤ K then 1 else -1) := by
  have hB := below_step (below_alloc w (.cells #[.int .i64 0, .int .i64 M, .slice A n c, .int .i64 K] 26)) (below_alloc _ (.cells #[.int .i64 0, .int .i64 0, .slice none 0 0, .int .i64 0] 26)); have h1 := hI.step hB; have B1 := (CBox.new w 0 M A n c K).step (below_alloc _ (.cells #[.int .i64 0, .int .i64 0, .slice none 0 0, .int .i64 0] 26)); have B2 := CBox.new (w.alloc (.cells #[.int .i64 0, .int .i64 M, .slice A n c, .int .i64 K] 26)) 0 0 none 0 0 0; rw [World.size_alloc] at B2; have c0 := B1.c0; have c1 := B1.c1; have c2 := B1.c2; have c3 := B1.c3
  have HG := Lib.hid (fun W (h : IntsAt W A n xs) => ref_gcdA W A n c xs hx h)
  rw [h0] at HG
  obtain ⟨s, hs⟩ : ∃ s : Int, (if 0 ≤ K then (1 : Int) else -1) = s := ⟨_, rfl⟩
  have HS := Lib.hid (show (if decide (0 ≤ K) = true then (1 : Int) else -1) = s by rw [← hs]; simp)
  rw [hs]
  clear hs h0
  go_enter Try.func30, Try.ntmps30
  go_wp2_with (first
    | (go_at_call 47; refine (HG.out _ h1).mono ?_; rintro e w1 ⟨rfl, hb⟩; replace hB := below_step hB hb; replace h1 := h1.step hb; replace B1 := B1.step hb; replace B2 := B2.step hb; have c0 := B1.c0; have c1 := B1.c1; have c2 := B1.c2; have c3 := B1.c3; have d0 := B2.c0; have d1 := B2.c1; have d2 := B2.c2; have d3 := B2.c3; have f0 := B2.f 0; have f1 := B2.f 1; have f2 := B2.f 2; have f3 := B2.f 3)
    | (go_at_call 48; refine (ref_truth _ _).mono ?_; rintro e w2 ⟨rfl, hb⟩; rw [HS.out]; replace hB := below_step hB hb; replace h1 := h1.step hb; replace B1 := B1.step hb; replace B2 := B2.step hb; have c0 := B1.c0; have c1 := B1.c1; have c2 := B1.c2; have c3 := B1.c3; have d0 := B2.c0; have d1 := B2.c1; have d2 := B2.c2; have d3 := B2.c3; have f0 := B2.f 0; have f1 := B2.f 1; have f2 := B2.f 2; have f3 := B2.f 3; obtain ⟨e0, e1, e2, e3⟩ := B2.four 0 0 none 0 0 0))
  refine bodyPost_ret (v := .tuple #[condV 0 0 none 0 0 0, .int .i64 s]) (by simp [results, Try.results30, go_sem, e0, e1, e2, e3]) rfl ?_
  exact ⟨none, 0, 0, rfl, ints_nil _ _, below_store4 hB (by omega) _ _ _ _, .inl rfl⟩

set_option maxHeartbeats 4000000 in
set_option maxRecDepth 100000 in
theorem made_open_ge (h0 : gcdA 0 xs ≠ 0) : Calls Try.prog 30 #[condV 0 M A n c K] w fun e w' => CondRet w e w' 0 0 (quoL n xs (gcdA 0 xs : Nat)) (K / (gcdA 0 xs : Nat)) 0 := by
  have hB := below_step (below_alloc w (.cells #[.int .i64 0, .int .i64 M, .slice A n c, .int .i64 K] 26)) (below_alloc _ (.cells #[.int .i64 0, .int .i64 0, .slice none 0 0, .int .i64 0] 26)); have h1 := hI.step hB; have B1 := (CBox.new w 0 M A n c K).step (below_alloc _ (.cells #[.int .i64 0, .int .i64 0, .slice none 0 0, .int .i64 0] 26)); have B2 := CBox.new (w.alloc (.cells #[.int .i64 0, .int .i64 M, .slice A n c, .int .i64 K] 26)) 0 0 none 0 0 0; rw [World.size_alloc] at B2; have c0 := B1.c0; have c1 := B1.c1; have c2 := B1.c2; have c3 := B1.c3
  obtain ⟨G, hG⟩ : ∃ G, gcdA 0 xs = G := ⟨_, rfl⟩; have HG := Lib.hid (fun W (h : IntsAt W A n xs) => ref_gcdA W A n c xs hx h); have hGl := gcd_lim xs hx; rw [hG] at HG hGl
  rw [hG] at h0 ⊢
  have hg1 : (1 : Int) ≤ G := by omega
  have q0 : ((G : Int) == 0) = false := by simp; omega
  have HO := Lib.hid (fun k W (h : IntsAt W A n xs) => ref_over A n c K xs (G : Int) k (by omega) (by omega) hx W h)
  have HW := Lib.hid (quo_wf (n := n) (xs := xs) (b := (G : Int)) (by omega) hx)
  have hsm := hI.small
  obtain ⟨k, hk⟩ : ∃ k, K / (G : Int) = k := ⟨_, rfl⟩
  have HK := Lib.hid hk
  rw [hk]
  generalize quoL n xs (G : Int) = X at *
  clear hk hG hI hx h0
  go_enter Try.func30, Try.ntmps30
  go_wp2_with (first
    | (go_at_call 47; refine (HG.out _ h1).mono ?_; rintro e w1 ⟨rfl, hb⟩; replace hB := below_step hB hb; replace h1 := h1.step hb; replace B1 := B1.step hb; replace B2 := B2.step hb; have c0 := B1.c0; have c1 := B1.c1; have c2 := B1.c2; have c3 := B1.c3; have d0 := B2.c0; have d1 := B2.c1; have d2 := B2.c2; have d3 := B2.c3; have f0 := B2.f 0; have f1 := B2.f 1; have f2 := B2.f 2; have f3 := B2.f 3)
    | (go_at_call 49; refine (headlandref01_floor _ _ (by omega) (by omega) (by omega) hg1 _).mono ?_; rintro e w' ⟨rfl, rfl⟩; rw [HK.out])
    | (go_at_call 50; refine (HO.out _ _ h1).mono ?_; rintro e w2 ⟨g5, rfl, hg5, O5, hb⟩; have l4 := B2.lt; replace hB := below_step hB hb; replace h1 := h1.step hb; replace B1 := B1.step hb; replace B2 := B2.step hb; have c0 := B1.c0; have c1 := B1.c1; have c2 := B1.c2; have c3 := B1.c3; have d0 := B2.c0; have d1 := B2.c1; have d2 := B2.c2; have d3 := B2.c3; have f0 := B2.f 0; have f1 := B2.f 1; have f2 := B2.f 2; have f3 := B2.f 3; obtain ⟨e0, e1, e2, e3⟩ := B2.four 0 0 (some ⟨g5, 0, none⟩) n n k))
  refine bodyPost_ret (v := .tuple #[condV 0 0 (some ⟨g5, 0, none⟩) n n k, .int .i64 0]) (by simp [results, Try.results30, go_sem, e0, e1, e2, e3]) rfl ?_
  have R := O5.store4 (b := w.heap.size + 1) (by omega) (.int .i64 0) (.int .i64 0) (.slice (some ⟨g5, 0, none⟩) n n) (.int .i64 k)
  have hsz := B1.lt
  exact ⟨some ⟨g5, 0, none⟩, n, n, rfl, R.ints hsm (fun x hx => by have := HW.out x hx; omega), below_store4 hB (by omega) _ _ _ _, .inr ⟨g5, rfl, by omega, R⟩⟩

omit hK in
set_option maxHeartbeats 4000000 in
set_option maxRecDepth 100000 in
theorem made_zero_eq (h0 : gcdA 0 xs = 0) : Calls Try.prog 30 #[condV 1 M A n c K] w fun e w' => CondRet w e w' 0 0 [] 0 (if K = 0 then 1 else -1) := by
  have hB := below_step (below_alloc w (.cells #[.int .i64 1, .int .i64 M, .slice A n c, .int .i64 K] 26)) (below_alloc _ (.cells #[.int .i64 0, .int .i64 0, .slice none 0 0, .int .i64 0] 26)); have h1 := hI.step hB; have B1 := (CBox.new w 1 M A n c K).step (below_alloc _ (.cells #[.int .i64 0, .int .i64 0, .slice none 0 0, .int .i64 0] 26)); have B2 := CBox.new (w.alloc (.cells #[.int .i64 1, .int .i64 M, .slice A n c, .int .i64 K] 26)) 0 0 none 0 0 0; rw [World.size_alloc] at B2; have c0 := B1.c0; have c1 := B1.c1; have c2 := B1.c2; have c3 := B1.c3
  have HG := Lib.hid (fun W (h : IntsAt W A n xs) => ref_gcdA W A n c xs hx h)
  rw [h0] at HG
  obtain ⟨s, hs⟩ : ∃ s : Int, (if K = 0 then (1 : Int) else -1) = s := ⟨_, rfl⟩
  have HS := Lib.hid (show (if (K == 0) = true then (1 : Int) else -1) = s by rw [← hs]; simp)
  rw [hs]
  clear hs h0
  go_enter Try.func30, Try.ntmps30
  go_wp2_with (first
    | (go_at_call 47; refine (HG.out _ h1).mono ?_; rintro e w1 ⟨rfl, hb⟩; replace hB := below_step hB hb; replace h1 := h1.step hb; replace B1 := B1.step hb; replace B2 := B2.step hb; have c0 := B1.c0; have c1 := B1.c1; have c2 := B1.c2; have c3 := B1.c3; have d0 := B2.c0; have d1 := B2.c1; have d2 := B2.c2; have d3 := B2.c3; have f0 := B2.f 0; have f1 := B2.f 1; have f2 := B2.f 2; have f3 := B2.f 3)
    | (go_at_call 48; refine (ref_truth _ _).mono ?_; rintro e w2 ⟨rfl, hb⟩; rw [HS.out]; replace hB := below_step hB hb; replace h1 := h1.step hb; replace B1 := B1.step hb; replace B2 := B2.step hb; have c0 := B1.c0; have c1 := B1.c1; have c2 := B1.c2; have c3 := B1.c3; have d0 := B2.c0; have d1 := B2.c1; have d2 := B2.c2; have d3 := B2.c3; have f0 := B2.f 0; have f1 := B2.f 1; have f2 := B2.f 2; have f3 := B2.f 3; obtain ⟨e0, e1, e2, e3⟩ := B2.four 0 0 none 0 0 0))
  refine bodyPost_ret (v := .tuple #[condV 0 0 none 0 0 0, .int .i64 s]) (by simp [results, Try.results30, go_sem, e0, e1, e2, e3]) rfl ?_
  exact ⟨none, 0, 0, rfl, ints_nil _ _, below_store4 hB (by omega) _ _ _ _, .inl rfl⟩

set_option maxHeartbeats 4000000 in
set_option maxRecDepth 100000 in
theorem made_never_eq (h0 : gcdA 0 xs ≠ 0) (hr : K.tmod (gcdA 0 xs : Nat) ≠ 0) : Calls Try.prog 30 #[condV 1 M A n c K] w fun e w' => CondRet w e w' 0 0 [] 0 (-1) := by
  have hB := below_step (below_alloc w (.cells #[.int .i64 1, .int .i64 M, .slice A n c, .int .i64 K] 26)) (below_alloc _ (.cells #[.int .i64 0, .int .i64 0, .slice none 0 0, .int .i64 0] 26)); have h1 := hI.step hB; have B1 := (CBox.new w 1 M A n c K).step (below_alloc _ (.cells #[.int .i64 0, .int .i64 0, .slice none 0 0, .int .i64 0] 26)); have B2 := CBox.new (w.alloc (.cells #[.int .i64 1, .int .i64 M, .slice A n c, .int .i64 K] 26)) 0 0 none 0 0 0; rw [World.size_alloc] at B2; have c0 := B1.c0; have c1 := B1.c1; have c2 := B1.c2; have c3 := B1.c3
  obtain ⟨G, hG⟩ : ∃ G, gcdA 0 xs = G := ⟨_, rfl⟩; have HG := Lib.hid (fun W (h : IntsAt W A n xs) => ref_gcdA W A n c xs hx h); have hGl := gcd_lim xs hx; rw [hG] at HG hGl
  rw [hG] at h0 hr
  have q0 : ((G : Int) == 0) = false := by simp; omega
  have hg0 : (G : Int) ≠ 0 := by omega
  have q1 : (K.tmod (G : Int) != 0) = true := by simpa using hr
  have q2 : (K.tmod (G : Int) == 0) = false := by simpa using hr
  have hm : (K.tmod (G : Int)).natAbs ≤ K.natAbs := by rw [Int.natAbs_tmod]; exact Nat.mod_le _ _
  have hw : IntKind.i64.wrap (K.tmod (G : Int)) = K.tmod (G : Int) := IntWalk.i64_in _ (by omega)
  clear hr hm hG
  go_enter Try.func30, Try.ntmps30
  go_wp2_with (first
    | (go_at_call 47; refine (HG.out _ h1).mono ?_; rintro e w1 ⟨rfl, hb⟩; replace hB := below_step hB hb; replace h1 := h1.step hb; replace B1 := B1.step hb; replace B2 := B2.step hb; have c0 := B1.c0; have c1 := B1.c1; have c2 := B1.c2; have c3 := B1.c3; have d0 := B2.c0; have d1 := B2.c1; have d2 := B2.c2; have d3 := B2.c3; have f0 := B2.f 0; have f1 := B2.f 1; have f2 := B2.f 2; have f3 := B2.f 3)
    | (go_at_call 48; refine (ref_truth _ _).mono ?_; rintro e w2 ⟨rfl, hb⟩; replace hB := below_step hB hb; replace h1 := h1.step hb; replace B1 := B1.step hb; replace B2 := B2.step hb; have c0 := B1.c0; have c1 := B1.c1; have c2 := B1.c2; have c3 := B1.c3; have d0 := B2.c0; have d1 := B2.c1; have d2 := B2.c2; have d3 := B2.c3; have f0 := B2.f 0; have f1 := B2.f 1; have f2 := B2.f 2; have f3 := B2.f 3; obtain ⟨e0, e1, e2, e3⟩ := B2.four 0 0 none 0 0 0))
  refine bodyPost_ret (v := .tuple #[condV 0 0 none 0 0 0, .int .i64 (-1)]) (by simp [results, Try.results30, go_sem, e0, e1, e2, e3]) rfl ?_
  exact ⟨none, 0, 0, rfl, ints_nil _ _, below_store4 hB (by omega) _ _ _ _, .inl rfl⟩

omit hK hx hI in
theorem lead_zero (h : leadI xs = 0) : ∀ x ∈ xs, x = 0 := by
  induction xs with
  | nil => intro x hx; cases hx
  | cons y ys ih =>
    unfold leadI at h
    split at h
    · rename_i e
      intro x hx
      rcases List.mem_cons.1 hx with rfl | hx
      · exact e
      · exact ih h x hx
    · rename_i e; exact absurd h e
omit hK hx hI in
theorem gcdA_zero (h : ∀ x ∈ xs, x = 0) : gcdA 0 xs = 0 := by
  induction xs with
  | nil => rfl
  | cons y ys ih =>
    have h0 := h y List.mem_cons_self
    subst h0
    show gcdA (Nat.gcd 0 (0 : Int).natAbs) ys = 0
    exact ih fun x hx => h x (List.mem_cons_of_mem _ hx)

set_option maxHeartbeats 8000000 in
set_option maxRecDepth 100000 in
theorem made_open_eq (h0 : gcdA 0 xs ≠ 0) (hr : K.tmod (gcdA 0 xs : Nat) = 0) : Calls Try.prog 30 #[condV 1 M A n c K] w fun e w' => CondRet w e w' 1 0 (quoL n xs (leadBy xs (gcdA 0 xs))) (K.tdiv (leadBy xs (gcdA 0 xs))) 0 := by
  have hB := below_step (below_alloc w (.cells #[.int .i64 1, .int .i64 M, .slice A n c, .int .i64 K] 26)) (below_alloc _ (.cells #[.int .i64 0, .int .i64 0, .slice none 0 0, .int .i64 0] 26)); have h1 := hI.step hB; have B1 := (CBox.new w 1 M A n c K).step (below_alloc _ (.cells #[.int .i64 0, .int .i64 0, .slice none 0 0, .int .i64 0] 26)); have B2 := CBox.new (w.alloc (.cells #[.int .i64 1, .int .i64 M, .slice A n c, .int .i64 K] 26)) 0 0 none 0 0 0; rw [World.size_alloc] at B2; have c0 := B1.c0; have c1 := B1.c1; have c2 := B1.c2; have c3 := B1.c3
  have hLZ := Lib.hid (fun h => h0 (gcdA_zero xs (lead_zero xs h)))
  obtain ⟨G, hG⟩ : ∃ G, gcdA 0 xs = G := ⟨_, rfl⟩; have HG := Lib.hid (fun W (h : IntsAt W A n xs) => ref_gcdA W A n c xs hx h); have hGl := gcd_lim xs hx; rw [hG] at HG hGl
  rw [hG] at h0 hr ⊢
  have q0 : ((G : Int) == 0) = false := by simp; omega
  have hg0 : (G : Int) ≠ 0 := by omega
  have hgN : G ≠ 0 := by omega
  have hwm : IntKind.i64.wrap (K.tmod G) = 0 := by rw [hr]; rfl
  have hbb : leadBy xs G ≠ 0 ∧ -4611686018427387904 ≤ leadBy xs G ∧ leadBy xs G ≤ 4611686018427387904 := by unfold leadBy; split <;> omega
  have HO := Lib.hid (fun k W (h : IntsAt W A n xs) => ref_over A n c K xs (leadBy xs G) k hbb.1 hbb.2 hx W h)
  have HW := Lib.hid (quo_wf (n := n) hbb.1 hx)
  have hsm := hI.small
  have HL := Lib.hid hI.len
  obtain ⟨ld, hld⟩ : ∃ l, leadI xs = l := ⟨_, rfl⟩
  have HLD := Lib.hid hld
  obtain ⟨by_, hby⟩ : ∃ b, leadBy xs G = b := ⟨_, rfl⟩
  have hby2 : by_ = if ld < 0 then -(G : Int) else G := by rw [← hby, ← hld]; rfl
  have HB2 := Lib.hid hby2
  rw [hby] at HO HW hbb ⊢
  generalize quoL n xs by_ = X at *
  have hkd := tdiv_bd K by_ hbb.1
  obtain ⟨k, hk⟩ : ∃ k, K.tdiv by_ = k := ⟨_, rfl⟩
  rw [hk] at hkd ⊢
  have HKW := Lib.hid (show IntKind.i64.wrap (K.tdiv by_) = k by rw [hk]; exact IntWalk.i64_in _ (by omega))
  have HBB := Lib.hid hbb
  have hwn : IntKind.i64.wrap (-(G : Int)) = -(G : Int) := IntWalk.i64_in _ (by omega)
  clear hG hI hx h0 hwm hld hby hby2 hbb hk hkd hGl hK
  go_enter Try.func30, Try.ntmps30
  go_wp2_with (first
    | (go_at_call 47; refine (HG.out _ h1).mono ?_; rintro e w1 ⟨rfl, hb⟩; replace hB := below_step hB hb; replace h1 := h1.step hb; replace B1 := B1.step hb; replace B2 := B2.step hb; have c0 := B1.c0; have c1 := B1.c1; have c2 := B1.c2; have c3 := B1.c3; have d0 := B2.c0; have d1 := B2.c1; have d2 := B2.c2; have d3 := B2.c3; have f0 := B2.f 0; have f1 := B2.f 1; have f2 := B2.f 2; have f3 := B2.f 3))
  clear hr
  go_loop [4, 73] (fun u v => ∃ i : Nat, i ≤ n ∧ v = .int .i64 i ∧ u = .int .i64 (G : Int) ∧ ∀ j, j < i → xs[j]?.getD 0 = 0) (fun _ v => n - (intOf v).toNat)
  case atStart => exact ⟨0, Nat.zero_le _, rfl, rfl, fun j hj => absurd hj (by omega)⟩
  case round =>
    obtain ⟨i, hi, rfl, rfl, hz⟩ := hrel
    have HZ := Lib.hid hz
    clear hz
    by_cases hlt : i < n
    · obtain ⟨bl, off, rfl, hbl, hc⟩ := h1.cells (by omega)
      have hcell := hc i hlt
      have q1 : (i : Int) < n := by omega
      clear hc
      by_cases hx : xs[i]?.getD 0 = 0
      · have HXX := Lib.hid hx
        rw [hx] at hcell
        clear hx
        go_wp2
        go_round
        case rel => exact ⟨i + 1, by omega, by go_num, rfl, fun j hj => by
          rcases Nat.lt_or_eq_of_le (Nat.le_of_lt_succ hj) with h1 | h1
          · exact HZ.out j h1
          · exact h1 ▸ HXX.out⟩
        case measure => simp [intOf]; omega
      · have HV := Lib.hid (lead_at (by rw [HL.out]; exact hlt) HZ.out hx)
        generalize xs[i]?.getD 0 = x at *
        have q2 : (x != 0) = true := by simpa using hx
        have q3 : (x == 0) = false := by simpa using hx
        have HX0 := Lib.hid hx
        have e8 : ld = x := HLD.out.symm.trans HV.out
        subst e8
        clear hx
        have hb0 := HBB.out.1
        have hb00 : (by_ == 0) = false := by simpa using hb0
        have hkw := HKW.out
        have hb2 := HB2.out
        have l1 := B1.lt
        have l2 := B2.lt
        replace hB := hB.drew
        replace h1 := h1.step (Below.refl _ w1).drew
        replace B1 := B1.step (Below.refl _ w1).drew
        replace B2 := B2.step (Below.refl _ w1).drew
        by_cases hneg : ld < 0
        · rw [if_pos hneg] at hb2
          subst hb2
          have hkw2 : IntKind.i64.wrap (-(K.tdiv (G : Int))) = k := by rw [← Int.tdiv_neg]; exact hkw
          go_wp2
          go_region_held3 (fun W => W.cell? ⟨w.heap.size, 2, none⟩ = some (.slice (some ⟨bl, off, none⟩) n c) ∧ W.cell? ⟨w.heap.size, 3, none⟩ = some (.int .i64 K)) (first | exact ⟨c2, c3⟩ | go_keep)
            (first
              | (go_at_call 50; refine (HO.out _ _ h1).mono ?_; rintro e w2 ⟨g5, rfl, hg5, O5, hb⟩; have l4 := B2.lt; replace hB := below_step hB hb; replace h1 := h1.step hb; replace B1 := B1.step hb; replace B2 := B2.step hb; have c0 := B1.c0; have c1 := B1.c1; have c2 := B1.c2; have c3 := B1.c3; have d0 := B2.c0; have d1 := B2.c1; have d2 := B2.c2; have d3 := B2.c3; have f0 := B2.f 0; have f1 := B2.f 1; have f2 := B2.f 2; have f3 := B2.f 3; obtain ⟨e0, e1, e2, e3⟩ := B2.four 1 0 (some ⟨g5, 0, none⟩) n n k))
          all_goals
            go_wp2
            refine bodyPost_ret (v := .tuple #[condV 1 0 (some ⟨g5, 0, none⟩) n n k, .int .i64 0]) (by simp [results, Try.results30, go_sem, e0, e1, e2, e3]) rfl ?_
            have hg6 : w1.heap.size ≤ g5 := hg5
            have R := O5.store4 (b := w.heap.size + 1) (by omega) (.int .i64 1) (.int .i64 0) (.slice (some ⟨g5, 0, none⟩) n n) (.int .i64 k)
            exact ⟨some ⟨g5, 0, none⟩, n, n, rfl, R.ints hsm (fun x hx => by have := HW.out x hx; omega), below_store4 hB (by omega) _ _ _ _, .inr ⟨g5, rfl, by omega, R⟩⟩
        · rw [if_neg hneg] at hb2
          subst hb2
          go_wp2
          go_region_held3 (fun W => W.cell? ⟨w.heap.size, 2, none⟩ = some (.slice (some ⟨bl, off, none⟩) n c) ∧ W.cell? ⟨w.heap.size, 3, none⟩ = some (.int .i64 K)) (first | exact ⟨c2, c3⟩ | go_keep)
            (first
              | (go_at_call 50; refine (HO.out _ _ h1).mono ?_; rintro e w2 ⟨g5, rfl, hg5, O5, hb⟩; have l4 := B2.lt; replace hB := below_step hB hb; replace h1 := h1.step hb; replace B1 := B1.step hb; replace B2 := B2.step hb; have c0 := B1.c0; have c1 := B1.c1; have c2 := B1.c2; have c3 := B1.c3; have d0 := B2.c0; have d1 := B2.c1; have d2 := B2.c2; have d3 := B2.c3; have f0 := B2.f 0; have f1 := B2.f 1; have f2 := B2.f 2; have f3 := B2.f 3; obtain ⟨e0, e1, e2, e3⟩ := B2.four 1 0 (some ⟨g5, 0, none⟩) n n k))
          all_goals
            go_wp2
            refine bodyPost_ret (v := .tuple #[condV 1 0 (some ⟨g5, 0, none⟩) n n k, .int .i64 0]) (by simp [results, Try.results30, go_sem, e0, e1, e2, e3]) rfl ?_
            have hg6 : w1.heap.size ≤ g5 := hg5
            have R := O5.store4 (b := w.heap.size + 1) (by omega) (.int .i64 1) (.int .i64 0) (.slice (some ⟨g5, 0, none⟩) n n) (.int .i64 k)
            exact ⟨some ⟨g5, 0, none⟩, n, n, rfl, R.ints hsm (fun x hx => by have := HW.out x hx; omega), below_store4 hB (by omega) _ _ _ _, .inr ⟨g5, rfl, by omega, R⟩⟩
    · obtain rfl : i = n := by omega
      exact absurd (by rw [lead_skip i xs (by rw [HL.out]; exact Nat.le_refl _) HZ.out, List.drop_of_length_le (by rw [HL.out]; exact Nat.le_refl _)]; rfl) hLZ.out
end
end Go.Proofs.Ytbjkijifpikhkaa
