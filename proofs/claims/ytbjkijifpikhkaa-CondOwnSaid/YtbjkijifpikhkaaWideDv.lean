/-
  wide.Normal at conditions of kind 2.
-/
import Derived.Test.YtbjkijifpikhkaaProg
import Derived.Test.YtbjkijifpikhkaaKit
import Derived.Test.YtbjkijifpikhkaaLinKit
import Derived.Test.YtbjkijifpikhkaaLinClone
import Derived.Test.YtbjkijifpikhkaaLinPut
import Derived.Test.YtbjkijifpikhkaaCondKit
import Derived.Test.YtbjkijifpikhkaaWideBase
import Derived.Test.YtbjkijifpikhkaaWideNormal
import Derived.Test.YtbjkijifpikhkaaWideDiv
import Derived.Test.YtbjkijifpikhkaaWideAll
import Derived.Deep.RegionHeld3
namespace Go.Proofs.Ytbjkijifpikhkaa
open Go.RowKit
set_option linter.unusedVariables false
set_option linter.unusedSimpArgs false

set_option maxHeartbeats 4000000 in
theorem wide_normal_dv (M : Int) (A : Option Addr) (n c : Nat) (K : Int) (xs : List Int) (hM : 1 ≤ M ∧ M ≤ 512) (hK : -4611686018427387904 ≤ K ∧ K ≤ 4611686018427387904) (hx : ∀ x ∈ xs, -4611686018427387904 ≤ x ∧ x ≤ 4611686018427387904) (w : World) (hI : IntsAt w A n xs) :
    Calls Try.prog 29 #[condV 2 M A n c K] w fun e w' => NfRet w e w' (nf 2 M n xs K) := by
  have hB := below_step (below_alloc w (.cells #[.int .i64 2, .int .i64 M, .slice A n c, .int .i64 K] 26)) (below_alloc _ (.cells #[.int .i64 0, .int .i64 0, .slice none 0 0, .int .i64 0] 26))
  have h1 := hI.step hB
  have B1 := (CBox.new w 2 M A n c K).step (below_alloc _ (.cells #[.int .i64 0, .int .i64 0, .slice none 0 0, .int .i64 0] 26))
  have B2 := CBox.new (w.alloc (.cells #[.int .i64 2, .int .i64 M, .slice A n c, .int .i64 K] 26)) 0 0 none 0 0 0
  rw [World.size_alloc] at B2
  obtain ⟨w1, hw1⟩ : ∃ w1, w1 = ((w.alloc (.cells #[.int .i64 2, .int .i64 M, .slice A n c, .int .i64 K] 26)).alloc (.cells #[.int .i64 0, .int .i64 0, .slice none 0 0, .int .i64 0] 26)) := ⟨_, rfl⟩
  rw [← hw1] at hB h1 B1 B2
  obtain ⟨r, hr⟩ : ∃ r, nf 2 M n xs K = r := ⟨_, rfl⟩
  obtain ⟨G, hG⟩ : ∃ G, gcdA 0 xs = G := ⟨_, rfl⟩
  have HR := Lib.hid (show ∀ W : World, IntsAt W A n xs → Calls Try.prog 62 #[shapeV 2 M A n c K (G : Nat)] W fun e w' => NfRet W e w' r from fun W h => by rw [← hr]; exact rule_div M A n c K xs hK hx W h _ hM)
  have HD := Lib.hid (show ∀ W : World, IntsAt W A n xs → Calls Try.prog 46 #[.int .i64 0, .slice A n c] W fun e w' => e = .returned (.int .i64 (G : Nat)) ∧ Below W.heap.size W w' from fun W h => (wide_divisor 0 ⟨by decide, by decide⟩ A n c xs hx W h).mono (by rintro e w' ⟨rfl, kk, rfl⟩; exact ⟨by rw [← hG]; rfl, below_of_drewN kk⟩))
  rw [hr]
  have c0 := B1.c0
  have c1 := B1.c1
  have c2 := B1.c2
  have c3 := B1.c3
  have l1 := B1.lt
  have l2 := B2.lt
  have n1 : w.heap.size ≠ w.heap.size + 1 := by omega
  have x0 : ∀ w : World, (Instr.index 62 (.agg #[fnV 60, fnV 61, fnV 62]) (.int .i64 2)).run Try.prog w = .ok (fnV 62) w := fun _ => rfl
  replace hB := hB.drew
  replace h1 := h1.step (Below.refl _ w1).drew
  replace B1 := B1.step (Below.refl _ w1).drew
  replace B2 := B2.step (Below.refl _ w1).drew
  clear hI hr hG hx hK
  go_enter Try.func29, Try.ntmps29
  go_wp2
  rw [← hw1]
  clear hw1
  go_region_held3 (fun W => W.cell? ⟨w.heap.size, 0, none⟩ = some (.int .i64 2) ∧ W.cell? ⟨w.heap.size, 1, none⟩ = some (.int .i64 M) ∧ W.cell? ⟨w.heap.size, 2, none⟩ = some (.slice A n c) ∧ W.cell? ⟨w.heap.size, 3, none⟩ = some (.int .i64 K)) (first | exact ⟨k0, k1, k2, k3⟩ | exact ⟨c0, c1, c2, c3⟩ | go_keep)
    (first
      | (go_at_call 45; refine (wide_rules _).mono ?_; rintro e w2 ⟨rfl, hb2⟩; replace hB := below_step hB hb2; replace h1 := h1.step hb2; replace B1 := B1.step hb2; replace B2 := B2.step hb2; have k0 := B1.c0; have k1 := B1.c1; have k2 := B1.c2; have k3 := B1.c3)
      | (go_at_call 46; refine (HD.out _ h1).mono ?_; rintro e w2 ⟨rfl, hb2⟩; replace hB := below_step hB hb2; replace h1 := h1.step hb2; replace B1 := B1.step hb2; replace B2 := B2.step hb2; have k0 := B1.c0; have k1 := B1.c1; have k2 := B1.c2; have k3 := B1.c3)
      | (go_at_call 62; refine (HR.out _ h1).mono ?_; rintro e w4 ⟨A4, n4, c4, rfl, I4, hb4, O4⟩; have l4 := B2.lt; replace hB := below_step hB hb4; replace B1 := B1.step hb4; replace B2 := B2.step hb4; have k0 := B1.c0; have k1 := B1.c1; have k2 := B1.c2; have k3 := B1.c3; have d0 := B2.c0; have d1 := B2.c1; have d2 := B2.c2; have d3 := B2.c3; have f0 := B2.f 0; have f1 := B2.f 1; have f2 := B2.f 2; have f3 := B2.f 3))
  all_goals
    obtain ⟨e0, e1, e2, e3⟩ := B2.four r.1 r.2.1 A4 n4 c4 r.2.2.2.1
    go_wp2
    refine bodyPost_ret (v := .tuple #[condV r.1 r.2.1 A4 n4 c4 r.2.2.2.1, .int .i64 r.2.2.2.2]) (by simp [results, Try.results29, go_sem, e0, e1, e2, e3]) rfl ?_
    exact condRet_into I4 O4 hB (by omega) l4 _ _ _ _
end Go.Proofs.Ytbjkijifpikhkaa
