/-
  Contracts for Split of package num and of its reference.
-/
import Derived.Test.YtlahomobecfghaaProg
import Derived.Test.YtlahomobecfghaaKit
import Derived.Test.YtlahomobecfghaaNumBase
import Derived.Test.YtlahomobecfghaaSplitMath
import Derived.Test.YtlahomobecfghaaNumGcd
import Derived.Test.YtlahomobecfghaaNumRef
namespace Go.Proofs.Ytlahomobecfghaa
open Go.RowKit
set_option linter.unusedVariables false

theorem bezout (n : Nat) : ∀ a b : Nat, a ≤ n → ∃ x : Int, (b : Int) ∣ (Nat.gcd a b : Int) - a * x := by
  induction n with
  | zero => intro a b h; obtain rfl : a = 0 := by omega
            exact ⟨0, by simp⟩
  | succ n ih =>
    intro a b h
    by_cases h0 : a = 0
    · subst h0; exact ⟨0, by simp⟩
    · have hlt := Nat.mod_lt b (Nat.pos_of_ne_zero h0)
      obtain ⟨x, k, hk⟩ := ih (b % a) a (by omega)
      refine ⟨k - (b / a : Nat) * x, ?_⟩
      rw [Nat.gcd_rec a b]
      have e : ((b : Nat) : Int) = (a : Int) * ((b / a : Nat) : Int) + ((b % a : Nat) : Int) := by rw [← Int.natCast_mul, ← Int.natCast_add, Nat.div_add_mod]
      refine ⟨x, ?_⟩
      generalize hq : ((b / a : Nat) : Int) = q at *
      generalize hr : ((b % a : Nat) : Int) = r at *
      rw [e]
      have e1 : (a : Int) * (k - q * x) = (a : Int) * k - (a : Int) * q * x := by rw [Int.mul_sub, Int.mul_assoc]
      rw [e1, Int.add_mul]
      omega

theorem split_exists (a b : Int) (hb : b ≠ 0) : ∃ x, IsSplit a b (Nat.gcd a.natAbs b.natAbs) x := by
  obtain ⟨x, hx⟩ := bezout a.natAbs a.natAbs b.natAbs (Nat.le_refl _)
  have hx' : b ∣ (Nat.gcd a.natAbs b.natAbs : Int) - a.natAbs * x := Int.natAbs_dvd.1 hx
  by_cases h : 0 ≤ a
  · have e : (a.natAbs : Int) = a := by omega
    rw [e] at hx'
    exact ⟨_, mod_split hb hx'⟩
  · have e : (a.natAbs : Int) = -a := by omega
    rw [e] at hx'
    exact ⟨_, mod_split (x0 := -x) hb (by rw [Int.mul_neg, ← Int.neg_mul]; exact hx')⟩

/-- What Split answers of a and b that fit, b not 0. -/
theorem split_bd {a b x : Int} {g : Nat} (h : IsSplit a b g x) (ha : a.natAbs ≤ 1048576) (hb : b.natAbs ≤ 1048576) : -1099511627776 ≤ a * x ∧ a * x ≤ 1099511627776 := by
  have h1 : b.natAbs / g ≤ b.natAbs := Nat.div_le_self _ _
  have h2 := h.lo
  have h3 := h.hi
  have h4 : (a * x).natAbs ≤ 1048576 * 1048576 := by rw [Int.natAbs_mul]; exact Nat.mul_le_mul ha (by omega)
  omega

theorem num_split_bad (a b : Int) (h : ¬ (fitsB a = true ∧ fitsB b = true)) (w : World) :
    Calls Try.prog 32 #[.int .i64 a, .int .i64 b] w fun e w' => e = .returned (.tuple #[.int .i64 0, .int .i64 0, .int .i64 0, .int .i64 6]) ∧ ∃ k, w' = w.drewN k := by
  cases ga : fitsB a
  · clear h
    go_enter Try.func32, Try.ntmps32
    go_wp2_with (go_at_call 26; refine (num_fits _ _).mono ?_; rintro e w' ⟨rfl, rfl⟩)
    refine bodyPost_ret (v := .tuple #[.int .i64 0, .int .i64 0, .int .i64 0, .int .i64 6]) (by simp [results, Try.results32, go_sem]) rfl ⟨rfl, ?_⟩
    exact ⟨0, rfl⟩
  · have gb : fitsB b = false := by cases hb : fitsB b <;> simp_all
    clear h
    go_enter Try.func32, Try.ntmps32
    go_wp2_with (go_at_call 26; refine (num_fits _ _).mono ?_; rintro e w' ⟨rfl, rfl⟩)
    refine bodyPost_ret (v := .tuple #[.int .i64 0, .int .i64 0, .int .i64 0, .int .i64 6]) (by simp [results, Try.results32, go_sem]) rfl ⟨rfl, ?_⟩
    exact ⟨0, rfl⟩
theorem headlandref01_split_bad (a b : Int) (h : ¬ (fitsB a = true ∧ fitsB b = true)) (w : World) :
    Calls Try.prog 33 #[.int .i64 a, .int .i64 b] w fun e w' => e = .returned (.tuple #[.int .i64 0, .int .i64 0, .int .i64 0, .int .i64 6]) ∧ ∃ k, w' = w.drewN k := by
  cases ga : fitsB a
  · clear h
    go_enter Try.func33, Try.ntmps33
    go_wp2_with (go_at_call 27; refine (headlandref01_fits _ _).mono ?_; rintro e w' ⟨rfl, rfl⟩)
    refine bodyPost_ret (v := .tuple #[.int .i64 0, .int .i64 0, .int .i64 0, .int .i64 6]) (by simp [results, Try.results33, go_sem]) rfl ⟨rfl, ?_⟩
    exact ⟨0, rfl⟩
  · have gb : fitsB b = false := by cases hb : fitsB b <;> simp_all
    clear h
    go_enter Try.func33, Try.ntmps33
    go_wp2_with (go_at_call 27; refine (headlandref01_fits _ _).mono ?_; rintro e w' ⟨rfl, rfl⟩)
    refine bodyPost_ret (v := .tuple #[.int .i64 0, .int .i64 0, .int .i64 0, .int .i64 6]) (by simp [results, Try.results33, go_sem]) rfl ⟨rfl, ?_⟩
    exact ⟨0, rfl⟩

theorem num_split_zero (a : Int) (ga : fitsB a = true) (w : World) :
    Calls Try.prog 32 #[.int .i64 a, .int .i64 0] w fun e w' => e = .returned (.tuple #[.int .i64 (a.natAbs : Int), .int .i64 a.sign, .int .i64 0, .int .i64 0]) ∧ ∃ k, w' = w.drewN k := by
  have hb := fitsB_true.1 ga
  have gb : fitsB 0 = true := by decide
  rcases Int.lt_trichotomy a 0 with h0 | h0 | h0
  · have HE := Lib.hid (show -a = (a.natAbs : Int) ∧ -1 = a.sign from ⟨by omega, (Int.sign_eq_neg_one_of_neg h0).symm⟩)
    go_enter Try.func32, Try.ntmps32
    go_wp2_with (go_at_call 26; refine (num_fits _ _).mono ?_; rintro e w' ⟨rfl, rfl⟩)
    refine wp_loop_rounds 1 ?_
    rw [rounds_succ]
    go_wp2
    refine bodyPost_ret (v := .tuple #[.int .i64 (-a), .int .i64 (-1), .int .i64 0, .int .i64 0]) (by simp [results, Try.results32, go_sem]) rfl ⟨by rw [← HE.out.1, ← HE.out.2], ?_⟩
    exact ⟨0, rfl⟩
  · subst h0
    go_enter Try.func32, Try.ntmps32
    go_wp2_with (go_at_call 26; refine (num_fits _ _).mono ?_; rintro e w' ⟨rfl, rfl⟩)
    refine wp_loop_rounds 1 ?_
    rw [rounds_succ]
    go_wp2
    refine bodyPost_ret (v := .tuple #[.int .i64 0, .int .i64 0, .int .i64 0, .int .i64 0]) (by simp [results, Try.results32, go_sem]) rfl ⟨rfl, ?_⟩
    exact ⟨0, rfl⟩
  · have HE := Lib.hid (show a = (a.natAbs : Int) ∧ 1 = a.sign from ⟨by omega, (Int.sign_eq_one_of_pos h0).symm⟩)
    go_enter Try.func32, Try.ntmps32
    go_wp2_with (go_at_call 26; refine (num_fits _ _).mono ?_; rintro e w' ⟨rfl, rfl⟩)
    refine wp_loop_rounds 1 ?_
    rw [rounds_succ]
    go_wp2
    refine bodyPost_ret (v := .tuple #[.int .i64 a, .int .i64 1, .int .i64 0, .int .i64 0]) (by simp [results, Try.results32, go_sem]) rfl ⟨by rw [← HE.out.1, ← HE.out.2], ?_⟩
    exact ⟨0, rfl⟩

/-- The end of the loop: what is left is the answer, up to its sign. -/
theorem EState.done {a b g x next s t u : Int} {G X N : Nat} (h : EState a b g 0 x next s t u G 0 X N) (hb : b ≠ 0) :
    G = Nat.gcd a.natAbs b.natAbs ∧ ((g = G ∧ ∀ y, IsSplit a b G y → x % ((b.natAbs / G : Nat) : Int) = y) ∨ (g = -(G : Int) ∧ ∀ y, IsSplit a b G y → (-x) % ((b.natAbs / G : Nat) : Int) = y)) := by
  have e : G = Nat.gcd a.natAbs b.natAbs := by rw [← h.gcd]; simp
  refine ⟨e, ?_⟩
  have hc := h.c1
  have hg := h.eg
  rcases h.hs with hs | hs
  · rw [hs] at hg
    refine .inl ⟨by omega, fun y hy => ?_⟩
    have h1 := mod_split (a := a) (b := b) (x0 := x) hb (by rw [← e]; have : (G : Int) - a * x = g - a * x := by omega
                                                            rw [this]; exact hc)
    rw [← e] at h1
    exact (h1.unique hb hy).2
  · rw [hs] at hg
    refine .inr ⟨by omega, fun y hy => ?_⟩
    have h1 := mod_split (a := a) (b := b) (x0 := -x) hb (by rw [← e, Int.mul_neg]; have : (G : Int) - -(a * x) = -(g - a * x) := by omega
                                                             rw [this]; exact Int.dvd_neg.2 hc)
    rw [← e] at h1
    exact (h1.unique hb hy).2

theorem sg_abs {s n : Int} {N : Nat} (hs : s = 1 ∨ s = -1) (h : n = s * N) : n.natAbs = N := by
  rcases hs with rfl | rfl <;> omega

theorem sg_mul {s t : Int} (hs : s = 1 ∨ s = -1) (ht : t = 1 ∨ t = -1) : s * t = 1 ∨ s * t = -1 := by
  rcases hs with rfl | rfl <;> rcases ht with rfl | rfl <;> simp

theorem EState.wraps {a b g rest x next s t u : Int} {G R X N : Nat} (h : EState a b g rest x next s t u G R X N) (hR : R ≠ 0) (hb : b.natAbs ≤ 1048576) :
    wrap64 (g - wrap64 (wrap64 (g.tdiv rest) * rest)) = g - g.tdiv rest * rest ∧ wrap64 (x - wrap64 (wrap64 (g.tdiv rest) * next)) = x - g.tdiv rest * next ∧
      (g - g.tdiv rest * rest).natAbs < rest.natAbs := by
  have h' := h.step hR hb
  have b1 := sg_abs h.hs h.eg
  have b2 := sg_abs h.ht h.er
  have b3 := sg_abs h.hu h.ex
  have b4 := sg_abs h'.ht h'.er
  have b5 := sg_abs h'.hu h'.ex
  have b6 := sg_abs (s := -(t * s * -(s * t * u))) (by
    rcases h.hs with rfl | rfl <;> rcases h.ht with rfl | rfl <;> rcases h.hu with rfl | rfl <;> simp) h'.en
  have c1 := h.bG
  have c2 := h.bR
  have c3 := h.bX
  have c4 := h'.bR
  have c5 := h'.bN
  have hq : (g.tdiv rest).natAbs ≤ g.natAbs := by rw [Int.natAbs_tdiv]; exact Nat.div_le_self _ _
  have hm := Nat.mod_lt G (Nat.pos_of_ne_zero hR)
  rw [IntWalk.wrap64_in (g.tdiv rest) (by omega)]
  generalize g.tdiv rest * rest = m at *
  generalize g.tdiv rest * next = m' at *
  rw [IntWalk.wrap64_in m (by omega), IntWalk.wrap64_in m' (by omega)]
  exact ⟨IntWalk.wrap64_in _ (by omega), IntWalk.wrap64_in _ (by omega), by omega⟩

theorem split_wrap {a b x : Int} {g : Nat} (h : -1099511627776 ≤ a * x ∧ a * x ≤ 1099511627776) (h1 : 0 < g) (h2 : g ≤ b.natAbs) (h3 : b.natAbs ≤ 1048576) :
    wrap64 ((wrap64 ((g : Int) - wrap64 (a * x))).tdiv b) = ((g : Int) - a * x).tdiv b := by
  rw [IntWalk.wrap64_in (a * x) (by omega)]
  generalize a * x = m at h
  rw [IntWalk.wrap64_in ((g : Int) - m) (by omega)]
  have e : (((g : Int) - m).tdiv b).natAbs ≤ ((g : Int) - m).natAbs := by rw [Int.natAbs_tdiv]; exact Nat.div_le_self _ _
  generalize ((g : Int) - m).tdiv b = q at e
  exact IntWalk.wrap64_in _ (by omega)

theorem num_split_main (a b x0 : Int) (g0 : Nat) (h : IsSplit a b g0 x0) (hb : b ≠ 0) (ga : fitsB a = true) (gb : fitsB b = true) (w : World) :
    Calls Try.prog 32 #[.int .i64 a, .int .i64 b] w fun e w' => e = .returned (.tuple #[.int .i64 (g0 : Int), .int .i64 x0, .int .i64 (((g0 : Int) - a * x0).tdiv b), .int .i64 0]) ∧ ∃ k, w' = w.drewN k := by
  have ha1 := fitsB_true.1 ga
  have hb1 := fitsB_true.1 gb
  have hg0 : 0 < g0 := h.gcd ▸ gcd_pos hb
  have hgb : g0 ≤ b.natAbs := Nat.le_of_dvd (by omega) (h.gcd ▸ Nat.gcd_dvd_right _ _)
  have H := Lib.hid h
  go_enter Try.func32, Try.ntmps32
  go_wp2_with (go_at_call 26; refine (num_fits _ _).mono ?_; rintro e w' ⟨rfl, rfl⟩)
  go_loopw [4, 8, 5, 9] (fun v1 v2 v3 v4 wr => ∃ (g rest x next s t u : Int) (G R X N k : Nat), v1 = .int .i64 g ∧ v2 = .int .i64 rest ∧ v3 = .int .i64 x ∧ v4 = .int .i64 next ∧ EState a b g rest x next s t u G R X N ∧ wr = w.drewN k) (fun _ v _ _ _ => (intOf v).natAbs)
  case atStart =>
    obtain ⟨s, t, hE⟩ := EState.start a b (by omega) (by omega)
    exact ⟨_, _, _, _, _, _, _, _, _, _, _, 0, rfl, rfl, rfl, rfl, hE, rfl⟩
  case round =>
    obtain ⟨g, rest, x, next, s, t, u, G, R, X, N, k, rfl, rfl, rfl, rfl, hE, rfl⟩ := hrel
    by_cases h0 : rest = 0
    · subst h0
      obtain rfl : R = 0 := by
        have := hE.er
        rcases hE.ht with ht | ht <;> rw [ht] at this <;> omega
      obtain ⟨eG, hd⟩ := hE.done hb
      obtain rfl : g0 = G := h.gcd.trans eG.symm
      have bX := hE.ex
      have bX' := hE.bX
      have bx : -1048576 ≤ x ∧ x ≤ 1048576 := by rcases hE.hu with hu | hu <;> rw [hu] at bX <;> omega
      have hbz : (b == 0) = false := by simpa using hb
      have hq1 : 1 ≤ b.natAbs / g0 := Nat.div_pos hgb hg0
      have hq2 : b.natAbs / g0 ≤ b.natAbs := Nat.div_le_self _ _
      have hq3 : wrap64 ((b.natAbs : Int) / (g0 : Int)) = ((b.natAbs / g0 : Nat) : Int) := by
        rw [Int.natCast_ediv]
        rw [← Int.natCast_ediv]
        exact IntWalk.wrap64_in _ (by omega)
      have hm := split_bd h (by omega) (by omega)
      have HW := Lib.hid (split_wrap hm hg0 hgb (by omega))
      generalize b.natAbs / g0 = d at hq1 hq2 hq3 hd
      have HQ := Lib.hid hq3
      clear hq3
      rcases hd with ⟨rfl, hx⟩ | ⟨rfl, hx⟩
      · have HX := Lib.hid (hx _ h)
        have hp : (0 : Int) < (g0 : Int) := by omega
        clear hx hE eG bX h hm
        go_wp2_with (first
          | (go_at_call 53; refine (num_size _ (by omega) (by omega) _).mono ?_; rintro e w' ⟨rfl, rfl⟩)
          | (go_at_call 17; rw [HQ.out]; refine (num_mod _ _ (by omega) (by omega) (by omega) (by omega) _).mono ?_; rintro e w' ⟨rfl, rfl⟩; rw [HX.out]))
        go_quiet (fail)
        all_goals
          go_wp2
          refine bodyPost_ret (v := .tuple #[.int .i64 (g0 : Int), .int .i64 x0, .int .i64 (((g0 : Int) - a * x0).tdiv b), .int .i64 0]) (by simp [results, Try.results32, go_sem]; exact HW.out) rfl ⟨rfl, ?_⟩
          exact ⟨_, World.drewN_drewN _ _ _⟩
      · have HX := Lib.hid (hx _ h)
        have hp : -(g0 : Int) < (0 : Int) := by omega
        have hp' : (0 : Int) < (g0 : Int) := by omega
        obtain ⟨y, rfl⟩ : ∃ y, x = -y := ⟨-x, by omega⟩
        simp only [Int.neg_neg] at HX
        have by' : -1048576 ≤ y ∧ y ≤ 1048576 := by omega
        clear hx hE eG bX h hm bx
        go_wp2_with (first
          | (go_at_call 53; refine (num_size _ (by omega) (by omega) _).mono ?_; rintro e w' ⟨rfl, rfl⟩)
          | (go_at_call 17; rw [HQ.out]; refine (num_mod _ _ (by omega) (by omega) (by omega) (by omega) _).mono ?_; rintro e w' ⟨rfl, rfl⟩; rw [HX.out]))
        go_quiet (fail)
        all_goals
          go_wp2
          refine bodyPost_ret (v := .tuple #[.int .i64 (g0 : Int), .int .i64 x0, .int .i64 (((g0 : Int) - a * x0).tdiv b), .int .i64 0]) (by simp [results, Try.results32, go_sem]; exact HW.out) rfl ⟨rfl, ?_⟩
          exact ⟨_, World.drewN_drewN _ _ _⟩
    · have hR : R ≠ 0 := by
        rintro rfl
        have := hE.er
        exact h0 (by simpa using this)
      have hS := Lib.hid (hE.step hR (by omega))
      obtain ⟨hw1, hw2, hms⟩ := hE.wraps hR (by omega)
      have HW1 := Lib.hid hw1
      have HW2 := Lib.hid hw2
      have hne : (rest != 0) = true := by simpa using h0
      have hne' : (rest == 0) = false := by simpa using h0
      clear hw1 hw2 hE h
      go_wp2
      go_roundw
      case rel => exact ⟨_, _, _, _, _, _, _, _, _, _, _, _, rfl, vint HW1.out, rfl, vint HW2.out, hS.out, rfl⟩
      case measure => simp only [intOf]; rw [HW1.out]; exact hms

theorem ints_pair (w : World) (a b : Int) (ha : -9223372036854775808 ≤ a ∧ a ≤ 9223372036854775807) (hb : -9223372036854775808 ≤ b ∧ b ≤ 9223372036854775807) :
    Ints (w.alloc (.cells #[.int .i64 a, .int .i64 b] 3)) (w.heap.size + 1) (some ⟨w.heap.size, 0, none⟩) 2 [a, b] :=
  ⟨rfl, by omega, fun x hx => by simp only [List.mem_cons, List.not_mem_nil, or_false] at hx; omega,
   fun _ => ⟨_, 0, rfl, by omega, fun j hj => by
     rcases (show j = 0 ∨ j = 1 by omega) with rfl | rfl
     all_goals simp [World.cell?_alloc_at]⟩⟩

theorem gcd_pair (a b : Int) : [a, b].foldl gcdStep 0 = Nat.gcd a.natAbs b.natAbs := by simp [gcdStep]

theorem gcd_small {a b : Int} (ha : a.natAbs ≤ 1048576) (hb : b.natAbs ≤ 1048576) : Nat.gcd a.natAbs b.natAbs ≤ 1048576 := by
  by_cases h : a.natAbs = 0
  · rw [h, Nat.gcd_zero_left]; exact hb
  · exact Nat.le_trans (Nat.gcd_le_left _ (by omega)) ha

theorem gcdVal_pair {a b : Int} (ha : a.natAbs ≤ 1048576) (hb : b.natAbs ≤ 1048576) : gcdVal [a, b] = (Nat.gcd a.natAbs b.natAbs : Nat) ∧ gcdErr [a, b] = 0 := by
  have := gcd_small ha hb
  unfold gcdVal gcdErr
  rw [gcd_pair, if_neg (by omega), if_neg (by omega)]
  exact ⟨rfl, rfl⟩

theorem below_pair (w : World) (o : Obj) (k : Nat) : Below w.heap.size w ((w.alloc o).drewN k) := ((Below.refl _ w).alloc (Nat.le_refl _) o).trans (Below.mono (below_of_drewN k) (by simp))

theorem ref_split_zero (a : Int) (ga : fitsB a = true) (w : World) :
    Calls Try.prog 33 #[.int .i64 a, .int .i64 0] w fun e w' => e = .returned (.tuple #[.int .i64 (a.natAbs : Int), .int .i64 a.sign, .int .i64 0, .int .i64 0]) ∧ Below w.heap.size w w' := by
  have ha1 := fitsB_true.1 ga
  have gb : fitsB 0 = true := by decide
  have HV := Lib.hid (gcdVal_pair (a := a) (b := 0) (by omega) (by omega))
  rcases Int.lt_trichotomy a 0 with h0 | h0 | h0
  · have HE := Lib.hid (show -1 = a.sign from (Int.sign_eq_neg_one_of_neg h0).symm)
    go_enter Try.func33, Try.ntmps33
    go_wp2_with (first
      | (go_at_call 27; refine (headlandref01_fits _ _).mono ?_; rintro e w' ⟨rfl, rfl⟩)
      | (go_at_call 24; refine (ref_gcd _ _ _ 2 2 _ (ints_pair w a 0 (by omega) (by omega))).mono ?_; rintro e w' ⟨rfl, k, rfl⟩; rw [HV.out.1, HV.out.2]))
    refine bodyPost_ret (v := .tuple #[.int .i64 (a.natAbs : Int), .int .i64 (-1), .int .i64 0, .int .i64 0]) (by simp [results, Try.results33, go_sem]) rfl ⟨by rw [← HE.out], ?_⟩
    exact below_pair _ _ _
  · subst h0
    go_enter Try.func33, Try.ntmps33
    go_wp2_with (first
      | (go_at_call 27; refine (headlandref01_fits _ _).mono ?_; rintro e w' ⟨rfl, rfl⟩)
      | (go_at_call 24; refine (ref_gcd _ _ _ 2 2 _ (ints_pair w 0 0 (by omega) (by omega))).mono ?_; rintro e w' ⟨rfl, k, rfl⟩; rw [HV.out.1, HV.out.2]))
    refine bodyPost_ret (v := .tuple #[.int .i64 0, .int .i64 0, .int .i64 0, .int .i64 0]) (by simp [results, Try.results33, go_sem]) rfl ⟨rfl, ?_⟩
    exact below_pair _ _ _
  · have HE := Lib.hid (show 1 = a.sign from (Int.sign_eq_one_of_pos h0).symm)
    go_enter Try.func33, Try.ntmps33
    go_wp2_with (first
      | (go_at_call 27; refine (headlandref01_fits _ _).mono ?_; rintro e w' ⟨rfl, rfl⟩)
      | (go_at_call 24; refine (ref_gcd _ _ _ 2 2 _ (ints_pair w a 0 (by omega) (by omega))).mono ?_; rintro e w' ⟨rfl, k, rfl⟩; rw [HV.out.1, HV.out.2]))
    refine bodyPost_ret (v := .tuple #[.int .i64 (a.natAbs : Int), .int .i64 1, .int .i64 0, .int .i64 0]) (by simp [results, Try.results33, go_sem]) rfl ⟨by rw [← HE.out], ?_⟩
    exact below_pair _ _ _

/-- One turn of the reference's search. -/
theorem search_step {a b x0 : Int} {g0 x : Nat} (h : IsSplit a b g0 x0) (hb : b ≠ 0) (ha : a.natAbs ≤ 1048576) (hb1 : b.natAbs ≤ 1048576) (hg : g0 ≤ 1048576) (hx : (x : Int) ≤ x0) :
    wrap64 ((g0 : Int) - wrap64 (a * x)) = (g0 : Int) - a * x ∧ (((g0 : Int) - a * x).tmod b = 0 ↔ (x : Int) = x0) ∧ x < 1048576 := by
  have h1 := h.hi
  have h2 : b.natAbs / g0 ≤ b.natAbs := Nat.div_le_self _ _
  have h4 : (a * (x : Int)).natAbs ≤ 1048576 * 1048576 := by rw [Int.natAbs_mul]; exact Nat.mul_le_mul ha (by omega)
  refine ⟨?_, ⟨fun e => ?_, fun e => ?_⟩, by omega⟩
  · rw [IntWalk.wrap64_in (a * x) (by omega)]
    exact IntWalk.wrap64_in _ (by omega)
  · rcases Int.lt_or_eq_of_le hx with h3 | h3
    · exact absurd (Int.dvd_of_tmod_eq_zero e) (h.least hb (by omega) h3)
    · exact h3
  · rw [e]; exact Int.tmod_eq_zero_of_dvd h.dvd

theorem ref_split_main (a b x0 : Int) (g0 : Nat) (h : IsSplit a b g0 x0) (hb : b ≠ 0) (ga : fitsB a = true) (gb : fitsB b = true) (w : World) :
    Calls Try.prog 33 #[.int .i64 a, .int .i64 b] w fun e w' => e = .returned (.tuple #[.int .i64 (g0 : Int), .int .i64 x0, .int .i64 (((g0 : Int) - a * x0).tdiv b), .int .i64 0]) ∧ Below w.heap.size w w' := by
  have ha1 := fitsB_true.1 ga
  have hb1 := fitsB_true.1 gb
  have hgs := gcd_small (a := a) (b := b) (by omega) (by omega)
  have HV := Lib.hid (gcdVal_pair (a := a) (b := b) (by omega) (by omega))
  have HG := Lib.hid h.gcd
  have hg0 : 0 < g0 := h.gcd ▸ gcd_pos hb
  have hgb : g0 ≤ b.natAbs := Nat.le_of_dvd (by omega) (h.gcd ▸ Nat.gcd_dvd_right _ _)
  have H := Lib.hid h
  have hlo := h.lo
  have hbz : (b == 0) = false := by simpa using hb
  have HW := Lib.hid (split_wrap (split_bd h (by omega) (by omega)) hg0 hgb (by omega))
  rw [← h.gcd] at hgs
  clear h
  go_enter Try.func33, Try.ntmps33
  go_wp2_with (first
    | (go_at_call 27; refine (headlandref01_fits _ _).mono ?_; rintro e w' ⟨rfl, rfl⟩)
    | (go_at_call 24; refine (ref_gcd _ _ _ 2 2 _ (ints_pair w a b (by omega) (by omega))).mono ?_; rintro e w' ⟨rfl, k, rfl⟩; rw [HV.out.1, HV.out.2, ← HG.out]))
  go_loopw [5] (fun v wr => ∃ (x k : Nat), v = .int .i64 x ∧ (x : Int) ≤ x0 ∧ wr = (w.alloc (.cells #[.int .i64 a, .int .i64 b] 3)).drewN k) (fun v _ => x0.toNat - (intOf v).toNat)
  case atStart => exact ⟨0, k, rfl, hlo, rfl⟩
  case round =>
    obtain ⟨x, k, rfl, hx, rfl⟩ := hrel
    obtain ⟨hw, hiff, hx2⟩ := search_step H.out hb (by omega) (by omega) (by omega) hx
    by_cases he : (x : Int) = x0
    · subst he
      have he : (x : Int) = x := rfl
      have HW2 := Lib.hid (show wrap64 (((g0 : Int) - a * x).tdiv b) = ((g0 : Int) - a * x).tdiv b by have := HW.out; rw [hw] at this; exact this)
      have hz : (((g0 : Int) - a * x).tmod b != 0) = false := by simpa using hiff.2 he
      have hz' : (((g0 : Int) - a * x).tmod b == 0) = true := by simpa using hiff.2 he
      clear he hiff
      go_wp2
      go_quiet (fail)
      all_goals
        go_wp2
        refine bodyPost_ret (v := .tuple #[.int .i64 (g0 : Int), .int .i64 (x : Int), .int .i64 (((g0 : Int) - a * x).tdiv b), .int .i64 0]) (by simp [results, Try.results33, go_sem]; exact HW2.out) rfl ⟨rfl, ?_⟩
        simp only [World.drewN_drewN]
        exact below_pair _ _ _
    · have HE := Lib.hid he
      have hz : (((g0 : Int) - a * x).tmod b != 0) = true := by simpa using fun h => he (hiff.1 h)
      have hz' : (((g0 : Int) - a * x).tmod b == 0) = false := by simpa using fun h => he (hiff.1 h)
      have hlt : (x : Int) < x0 := by omega
      clear he hiff
      go_wp2
      go_roundw
      case rel => exact ⟨x + 1, _, by go_num, by omega, rfl⟩
      case measure => simp [intOf]; omega
end Go.Proofs.Ytlahomobecfghaa
