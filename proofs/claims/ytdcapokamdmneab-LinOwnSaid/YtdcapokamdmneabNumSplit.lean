/-
  Contracts for Split of package num and of its reference.
-/
import Derived.Test.YtdcapokamdmneabProg
import Derived.Test.YtdcapokamdmneabKit
import Derived.Test.YtdcapokamdmneabNumBase
import Derived.Test.YtdcapokamdmneabSplitMath
import Derived.Test.YtdcapokamdmneabNumGcd
import Derived.Test.YtdcapokamdmneabNumRef
namespace Go.Proofs.Ytdcapokamdmneab
open Go.RowKit
set_option linter.unusedVariables false

theorem bezout (n : Nat) : ∀ a b : Nat, a ≤ n → ∃ x : Int, (b : Int) ∣ (Nat.gcd a b : Int) - a * x := by
  induction n with
  | zero => intro a b h; obtain rfl : a = 0 := by omega
            exact ⟨0, by simp⟩
  | succ n ih =>
    intro a b h
    by_cases h0 : a = 0
    · subst h0; exact ⟨0, by simp⟩
    · have hlt := Nat.mod_lt b (Nat.pos_of_ne_zero h0)
      obtain ⟨x, k, hk⟩ := ih (b % a) a (by omega)
      refine ⟨k - (b / a : Nat) * x, ?_⟩
      rw [Nat.gcd_rec a b]
      have e : ((b : Nat) : Int) = (a : Int) * ((b / a : Nat) : Int) + ((b % a : Nat) : Int) := by rw [← Int.natCast_mul, ← Int.natCast_add, Nat.div_add_mod]
      refine ⟨x, ?_⟩
      generalize hq : ((b / a : Nat) : Int) = q at *
      generalize hr : ((b % a : Nat) : Int) = r at *
      rw [e]
      have e1 : (a : Int) * (k - q * x) = (a : Int) * k - (a : Int) * q * x := by rw [Int.mul_sub, Int.mul_assoc]
      rw [e1, Int.add_mul]
      omega

theorem split_exists (a b : Int) (hb : b ≠ 0) : ∃ x, IsSplit a b (Nat.gcd a.natAbs b.natAbs) x := by
  obtain ⟨x, hx⟩ := bezout a.natAbs a.natAbs b.natAbs (Nat.le_refl _)
  have hx' : b ∣ (Nat.gcd a.natAbs b.natAbs : Int) - a.natAbs * x := Int.natAbs_dvd.1 hx
  by_cases h : 0 ≤ a
  · have e : (a.natAbs : Int) = a := by omega
    rw [e] at hx'
    exact ⟨_, mod_split hb hx'⟩
  · have e : (a.natAbs : Int) = -a := by omega
    rw [e] at hx'
    exact ⟨_, mod_split (x0 := -x) hb (by rw [Int.mul_neg, ← Int.neg_mul]; exact hx')⟩

/-- What Split answers of a and b that fit, b not 0. -/
theorem split_bd {a b x : Int} {g : Nat} (h : IsSplit a b g x) (ha : a.natAbs ≤ 1048576) (hb : b.natAbs ≤ 1048576) : -1099511627776 ≤ a * x ∧ a * x ≤ 1099511627776 := by
  have h1 : b.natAbs / g ≤ b.natAbs := Nat.div_le_self _ _
  have h2 := h.lo
  have h3 := h.hi
  have h4 : (a * x).natAbs ≤ 1048576 * 1048576 := by rw [Int.natAbs_mul]; exact Nat.mul_le_mul ha (by omega)
  omega

/-- The end of the loop: what is left is the answer, up to its sign. -/
theorem EState.done {a b g x next s t u : Int} {G X N : Nat} (h : EState a b g 0 x next s t u G 0 X N) (hb : b ≠ 0) :
    G = Nat.gcd a.natAbs b.natAbs ∧ ((g = G ∧ ∀ y, IsSplit a b G y → x % ((b.natAbs / G : Nat) : Int) = y) ∨ (g = -(G : Int) ∧ ∀ y, IsSplit a b G y → (-x) % ((b.natAbs / G : Nat) : Int) = y)) := by
  have e : G = Nat.gcd a.natAbs b.natAbs := by rw [← h.gcd]; simp
  refine ⟨e, ?_⟩
  have hc := h.c1
  have hg := h.eg
  rcases h.hs with hs | hs
  · rw [hs] at hg
    refine .inl ⟨by omega, fun y hy => ?_⟩
    have h1 := mod_split (a := a) (b := b) (x0 := x) hb (by rw [← e]; have : (G : Int) - a * x = g - a * x := by omega
                                                            rw [this]; exact hc)
    rw [← e] at h1
    exact (h1.unique hb hy).2
  · rw [hs] at hg
    refine .inr ⟨by omega, fun y hy => ?_⟩
    have h1 := mod_split (a := a) (b := b) (x0 := -x) hb (by rw [← e, Int.mul_neg]; have : (G : Int) - -(a * x) = -(g - a * x) := by omega
                                                             rw [this]; exact Int.dvd_neg.2 hc)
    rw [← e] at h1
    exact (h1.unique hb hy).2

theorem sg_abs {s n : Int} {N : Nat} (hs : s = 1 ∨ s = -1) (h : n = s * N) : n.natAbs = N := by
  rcases hs with rfl | rfl <;> omega

theorem sg_mul {s t : Int} (hs : s = 1 ∨ s = -1) (ht : t = 1 ∨ t = -1) : s * t = 1 ∨ s * t = -1 := by
  rcases hs with rfl | rfl <;> rcases ht with rfl | rfl <;> simp

theorem EState.wraps {a b g rest x next s t u : Int} {G R X N : Nat} (h : EState a b g rest x next s t u G R X N) (hR : R ≠ 0) (hb : b.natAbs ≤ 1048576) :
    wrap64 (g - wrap64 (wrap64 (g.tdiv rest) * rest)) = g - g.tdiv rest * rest ∧ wrap64 (x - wrap64 (wrap64 (g.tdiv rest) * next)) = x - g.tdiv rest * next ∧
      (g - g.tdiv rest * rest).natAbs < rest.natAbs := by
  have h' := h.step hR hb
  have b1 := sg_abs h.hs h.eg
  have b2 := sg_abs h.ht h.er
  have b3 := sg_abs h.hu h.ex
  have b4 := sg_abs h'.ht h'.er
  have b5 := sg_abs h'.hu h'.ex
  have b6 := sg_abs (s := -(t * s * -(s * t * u))) (by
    rcases h.hs with rfl | rfl <;> rcases h.ht with rfl | rfl <;> rcases h.hu with rfl | rfl <;> simp) h'.en
  have c1 := h.bG
  have c2 := h.bR
  have c3 := h.bX
  have c4 := h'.bR
  have c5 := h'.bN
  have hq : (g.tdiv rest).natAbs ≤ g.natAbs := by rw [Int.natAbs_tdiv]; exact Nat.div_le_self _ _
  have hm := Nat.mod_lt G (Nat.pos_of_ne_zero hR)
  rw [IntWalk.wrap64_in (g.tdiv rest) (by omega)]
  generalize g.tdiv rest * rest = m at *
  generalize g.tdiv rest * next = m' at *
  rw [IntWalk.wrap64_in m (by omega), IntWalk.wrap64_in m' (by omega)]
  exact ⟨IntWalk.wrap64_in _ (by omega), IntWalk.wrap64_in _ (by omega), by omega⟩

theorem split_wrap {a b x : Int} {g : Nat} (h : -1099511627776 ≤ a * x ∧ a * x ≤ 1099511627776) (h1 : 0 < g) (h2 : g ≤ b.natAbs) (h3 : b.natAbs ≤ 1048576) :
    wrap64 ((wrap64 ((g : Int) - wrap64 (a * x))).tdiv b) = ((g : Int) - a * x).tdiv b := by
  rw [IntWalk.wrap64_in (a * x) (by omega)]
  generalize a * x = m at h
  rw [IntWalk.wrap64_in ((g : Int) - m) (by omega)]
  have e : (((g : Int) - m).tdiv b).natAbs ≤ ((g : Int) - m).natAbs := by rw [Int.natAbs_tdiv]; exact Nat.div_le_self _ _
  generalize ((g : Int) - m).tdiv b = q at e
  exact IntWalk.wrap64_in _ (by omega)

theorem ints_pair (w : World) (a b : Int) (ha : -9223372036854775808 ≤ a ∧ a ≤ 9223372036854775807) (hb : -9223372036854775808 ≤ b ∧ b ≤ 9223372036854775807) :
    Ints (w.alloc (.cells #[.int .i64 a, .int .i64 b] 3)) (w.heap.size + 1) (some ⟨w.heap.size, 0, none⟩) 2 [a, b] :=
  ⟨rfl, by omega, fun x hx => by simp only [List.mem_cons, List.not_mem_nil, or_false] at hx; omega,
   fun _ => ⟨_, 0, rfl, by omega, fun j hj => by
     rcases (show j = 0 ∨ j = 1 by omega) with rfl | rfl
     all_goals simp [World.cell?_alloc_at]⟩⟩

theorem gcd_pair (a b : Int) : [a, b].foldl gcdStep 0 = Nat.gcd a.natAbs b.natAbs := by simp [gcdStep]

theorem gcd_small {a b : Int} (ha : a.natAbs ≤ 1048576) (hb : b.natAbs ≤ 1048576) : Nat.gcd a.natAbs b.natAbs ≤ 1048576 := by
  by_cases h : a.natAbs = 0
  · rw [h, Nat.gcd_zero_left]; exact hb
  · exact Nat.le_trans (Nat.gcd_le_left _ (by omega)) ha

theorem gcdVal_pair {a b : Int} (ha : a.natAbs ≤ 1048576) (hb : b.natAbs ≤ 1048576) : gcdVal [a, b] = (Nat.gcd a.natAbs b.natAbs : Nat) ∧ gcdErr [a, b] = 0 := by
  have := gcd_small ha hb
  unfold gcdVal gcdErr
  rw [gcd_pair, if_neg (by omega), if_neg (by omega)]
  exact ⟨rfl, rfl⟩

theorem below_pair (w : World) (o : Obj) (k : Nat) : Below w.heap.size w ((w.alloc o).drewN k) := ((Below.refl _ w).alloc (Nat.le_refl _) o).trans (Below.mono (below_of_drewN k) (by simp))

/-- One turn of the reference's search. -/
theorem search_step {a b x0 : Int} {g0 x : Nat} (h : IsSplit a b g0 x0) (hb : b ≠ 0) (ha : a.natAbs ≤ 1048576) (hb1 : b.natAbs ≤ 1048576) (hg : g0 ≤ 1048576) (hx : (x : Int) ≤ x0) :
    wrap64 ((g0 : Int) - wrap64 (a * x)) = (g0 : Int) - a * x ∧ (((g0 : Int) - a * x).tmod b = 0 ↔ (x : Int) = x0) ∧ x < 1048576 := by
  have h1 := h.hi
  have h2 : b.natAbs / g0 ≤ b.natAbs := Nat.div_le_self _ _
  have h4 : (a * (x : Int)).natAbs ≤ 1048576 * 1048576 := by rw [Int.natAbs_mul]; exact Nat.mul_le_mul ha (by omega)
  refine ⟨?_, ⟨fun e => ?_, fun e => ?_⟩, by omega⟩
  · rw [IntWalk.wrap64_in (a * x) (by omega)]
    exact IntWalk.wrap64_in _ (by omega)
  · rcases Int.lt_or_eq_of_le hx with h3 | h3
    · exact absurd (Int.dvd_of_tmod_eq_zero e) (h.least hb (by omega) h3)
    · exact h3
  · rw [e]; exact Int.tmod_eq_zero_of_dvd h.dvd

end Go.Proofs.Ytdcapokamdmneab