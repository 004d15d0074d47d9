/-
  wide.Normal.
-/
import Derived.Test.YtbjkijifpikhkaaProg
import Derived.Test.YtbjkijifpikhkaaKit
import Derived.Test.YtbjkijifpikhkaaLinKit
import Derived.Test.YtbjkijifpikhkaaLinClone
import Derived.Test.YtbjkijifpikhkaaLinPut
import Derived.Test.YtbjkijifpikhkaaCondKit
import Derived.Test.YtbjkijifpikhkaaWideBase
import Derived.Test.YtbjkijifpikhkaaWideNormal
import Derived.Test.YtbjkijifpikhkaaWideDiv
import Derived.Deep.RegionHeld3
namespace Go.Proofs.Ytbjkijifpikhkaa
open Go.RowKit
set_option linter.unusedVariables false
set_option linter.unusedSimpArgs false

theorem gcdA_bd (B : Nat) : ∀ (xs : List Int) (g : Nat), g ≤ B → (∀ x ∈ xs, x.natAbs ≤ B) → gcdA g xs ≤ B
  | [], g, hg, _ => hg
  | x :: xs, g, hg, hx => by
    refine gcdA_bd B xs (Nat.gcd g x.natAbs) ?_ (fun y hy => hx y (List.mem_cons_of_mem _ hy))
    by_cases h0 : g = 0
    · subst h0; rw [Nat.gcd_zero_left]; exact hx x List.mem_cons_self
    · exact Nat.le_trans (Nat.gcd_le_left _ (Nat.pos_of_ne_zero h0)) hg

/-- The normal form: kind, M, coefficients, constant, state. -/
def nf (q M : Int) (n : Nat) (xs : List Int) (K : Int) : Int × Int × List Int × Int × Int :=
  if q = 0 then (if gcdA 0 xs = 0 then (0, 0, [], 0, if 0 ≤ K then 1 else -1) else (0, 0, quoL n xs (gcdA 0 xs : Nat), K / (gcdA 0 xs : Nat), 0))
  else if q = 1 then (if gcdA 0 xs = 0 then (0, 0, [], 0, if K = 0 then 1 else -1)
    else if K.tmod (gcdA 0 xs : Nat) ≠ 0 then (0, 0, [], 0, -1)
    else (1, 0, quoL n xs (leadBy xs (gcdA 0 xs)), K.tdiv (leadBy xs (gcdA 0 xs)), 0))
  else if (K % M) % (gcdA M.natAbs xs : Int) ≠ 0 then (0, 0, [], 0, -1)
    else if (gcdA M.natAbs xs : Int) = M then (0, 0, [], 0, 1)
    else (2, M / (gcdA M.natAbs xs : Int), remL n xs M (gcdA M.natAbs xs), (K % M) / (gcdA M.natAbs xs : Int), 0)
abbrev NfRet (w : World) (e : Ending) (w' : World) (r : Int × Int × List Int × Int × Int) : Prop := CondRet w e w' r.1 r.2.1 r.2.2.1 r.2.2.2.1 r.2.2.2.2

section
variable (M : Int) (A : Option Addr) (n c : Nat) (K : Int) (xs : List Int) (hK : -4611686018427387904 ≤ K ∧ K ≤ 4611686018427387904) (hx : ∀ x ∈ xs, -4611686018427387904 ≤ x ∧ x ≤ 4611686018427387904) (w : World) (hI : IntsAt w A n xs)
include hK hx hI

omit hK hI in
theorem gcd_lim : gcdA 0 xs ≤ 4611686018427387904 := gcdA_bd _ xs 0 (by omega) (fun x h => by have := hx x h; omega)

theorem rule_ge : Calls Try.prog 60 #[shapeV 0 M A n c K (gcdA 0 xs : Nat)] w fun e w' => NfRet w e w' (nf 0 M n xs K) := by
  have hg := gcd_lim xs hx
  refine (at_least 0 M A n c K xs (gcdA 0 xs) hg hK hx w hI).mono ?_
  intro e w' h
  unfold nf
  rw [if_pos rfl]
  by_cases h0 : gcdA 0 xs = 0
  · simp only [if_pos h0] at h ⊢; exact h
  · simp only [if_neg h0] at h ⊢; exact h

theorem rule_eq : Calls Try.prog 61 #[shapeV 1 M A n c K (gcdA 0 xs : Nat)] w fun e w' => NfRet w e w' (nf 1 M n xs K) := by
  have hg := gcd_lim xs hx
  unfold nf
  rw [if_neg (by decide), if_pos rfl]
  by_cases h0 : gcdA 0 xs = 0
  · rw [if_pos h0, h0]; exact equal_zero 1 M A n c K xs hK w hI
  · rw [if_neg h0]
    by_cases h1 : K.tmod (gcdA 0 xs : Nat) = 0
    · rw [if_neg (by simpa using h1)]; exact equal_open 1 M A n c K xs _ hg (by omega) hK h1 hx w hI
    · rw [if_pos h1]; exact equal_never 1 M A n c K xs _ hg (by omega) hK h1 w hI

theorem rule_div (g : Int) (hM : 1 ≤ M ∧ M ≤ 512) : Calls Try.prog 62 #[shapeV 2 M A n c K g] w fun e w' => NfRet w e w' (nf 2 M n xs K) := by
  unfold nf
  rw [if_neg (by decide), if_neg (by decide)]
  by_cases h0 : (K % M) % (gcdA M.natAbs xs : Int) = 0
  · rw [if_neg (by simpa using h0)]
    by_cases h1 : (gcdA M.natAbs xs : Int) = M
    · rw [if_pos h1]; exact div_always 2 M A n c K xs g hM hK hx h0 h1 w hI
    · rw [if_neg h1]; exact div_open 2 M A n c K xs g hM hK hx h0 h1 w hI
  · rw [if_pos h0]; exact div_never 2 M A n c K xs g hM hK hx h0 w hI
end

/-- A function as a value. -/
abbrev fnV (f : Nat) : Value := .func (Fn.func f) #[] #[]
/-- Block b is a variable that holds three functions. -/
def FBox (w : World) (b : Nat) (x y z : Value) : Prop := w.heap[b]? = some (.cells #[x, y, z] 62 (0, 0))
theorem FBox.new (w : World) (x y z : Value) : FBox (w.alloc (.cells #[x, y, z] 62)) w.heap.size x y z := heap_alloc_new w _
theorem FBox.c {w : World} {b : Nat} {x y z : Value} (h : FBox w b x y z) : w.cell? ⟨b, 0, none⟩ = some x ∧ w.cell? ⟨b, 1, none⟩ = some y ∧ w.cell? ⟨b, 2, none⟩ = some z :=
  ⟨by rw [cell_of_row w b 0 _ _ (0, 0) h]; rfl, by rw [cell_of_row w b 1 _ _ (0, 0) h]; rfl, by rw [cell_of_row w b 2 _ _ (0, 0) h]; rfl⟩
theorem FBox.f {w : World} {b : Nat} {x y z : Value} (h : FBox w b x y z) (j : Nat) : w.frozen? ⟨b, j, none⟩ = false := by
  unfold FBox at h; simp [World.frozen?, h]
theorem FBox.put {w : World} {b : Nat} {x y z : Value} (h : FBox w b x y z) (f : Nat) :
    (store ⟨b, 0, none⟩ (fnV f)).run Try.prog w = .ok () (w.setCell ⟨b, 0, none⟩ (fnV f)) ∧
    (store ⟨b, 1, none⟩ (fnV f)).run Try.prog w = .ok () (w.setCell ⟨b, 1, none⟩ (fnV f)) ∧
    (store ⟨b, 2, none⟩ (fnV f)).run Try.prog w = .ok () (w.setCell ⟨b, 2, none⟩ (fnV f)) := by
  obtain ⟨c0, c1, c2⟩ := h.c
  have f0 := h.f 0
  have f1 := h.f 1
  have f2 := h.f 2
  refine ⟨?_, ?_, ?_⟩ <;> (rw [run_store _ _ _ _ _ rfl]; simp [c0, c1, c2, f0, f1, f2, go_sem])

theorem wide_rules (w : World) : Calls Try.prog 45 #[] w fun e w' => e = .returned (.agg #[fnV 60, fnV 61, fnV 62]) ∧ Below w.heap.size w w' := by
  have r0 := ((FBox.new w .nilFunc .nilFunc .nilFunc).put 60).1
  have r1 := ((FBox.new w (fnV 60) .nilFunc .nilFunc).put 61).2.1
  have r2 := ((FBox.new w (fnV 60) (fnV 61) .nilFunc).put 62).2.2
  obtain ⟨e0, e1, e2⟩ := (FBox.new w (fnV 60) (fnV 61) (fnV 62)).c
  go_enter Try.func45, Try.ntmps45
  go_wp2
  refine bodyPost_ret (v := .agg #[fnV 60, fnV 61, fnV 62]) (by simp [results, Try.results45, go_sem, e0, e1, e2]) rfl ?_
  exact ⟨rfl, below_alloc w _⟩

theorem condRet_into {w0 w1 w2 : World} {q M K s : Int} {X : List Int} {A : Option Addr} {n c b : Nat} (hI : IntsAt w2 A n X) (hO : n = 0 ∨ ∃ g, A = some ⟨g, 0, none⟩ ∧ w1.heap.size ≤ g ∧ OwnRow w2 g n X)
    (hB : Below w0.heap.size w0 w2) (hb0 : w0.heap.size ≤ b) (hb1 : b < w1.heap.size) (u v x y : Value) :
    CondRet w0 (.returned (.tuple #[condV q M A n c K, .int .i64 s])) ((((w2.setCell ⟨b, 0, none⟩ u).setCell ⟨b, 1, none⟩ v).setCell ⟨b, 2, none⟩ x).setCell ⟨b, 3, none⟩ y) q M X K s := by
  refine ⟨A, n, c, rfl, ?_, below_store4 hB hb0 _ _ _ _, ?_⟩
  · rcases hO with rfl | ⟨g, rfl, hg, O⟩
    · have hl := hI.len
      obtain rfl : X = [] := List.length_eq_zero_iff.1 hl
      exact ints_nil _ _
    · exact (O.store4 (b := b) (by omega) u v x y).ints hI.small hI.wf
  · rcases hO with rfl | ⟨g, rfl, hg, O⟩
    · exact .inl rfl
    · exact .inr ⟨g, rfl, by omega, O.store4 (b := b) (by omega) u v x y⟩
end Go.Proofs.Ytbjkijifpikhkaa
