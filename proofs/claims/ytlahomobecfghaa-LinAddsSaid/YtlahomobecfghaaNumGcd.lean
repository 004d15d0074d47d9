/-
  Contracts for the functions of package num, and of its reference, on lists: size, divisor, fold, Gcd, Lcm.
-/
import Derived.Test.YtlahomobecfghaaProg
import Derived.Test.YtlahomobecfghaaKit
import Derived.Test.YtlahomobecfghaaNumBase
import Derived.Test.YtlahomobecfghaaNumMath
namespace Go.Proofs.Ytlahomobecfghaa
open Go.RowKit
set_option linter.unusedVariables false

theorem num_size (n : Int) (wa : -9223372036854775808 ≤ n) (wa' : n ≤ 9223372036854775807) (w : World) :
    Calls Try.prog 53 #[.int .i64 n] w fun e w' => e = .returned (.int .u64 (n.natAbs : Int)) ∧ w = w' := by
  by_cases h : n < 0
  all_goals
    go_enter Try.func53, Try.ntmps53
    go_wp2
    go_ret
    exact ⟨ret1 (vint (by (try simp only [IntKind.wrap_u64]); omega)), rfl⟩
theorem headlandref01_size (n : Int) (wa : -9223372036854775808 ≤ n) (wa' : n ≤ 9223372036854775807) (w : World) :
    Calls Try.prog 57 #[.int .i64 n] w fun e w' => e = .returned (.int .u64 (n.natAbs : Int)) ∧ w = w' := by
  by_cases h : n < 0
  all_goals
    go_enter Try.func57, Try.ntmps57
    go_wp2
    go_ret
    exact ⟨ret1 (vint (by (try simp only [IntKind.wrap_u64]); omega)), rfl⟩

theorem num_divisor (a b : Nat) (ha : a < 18446744073709551616) (hb : b < 18446744073709551616) (w : World) :
    Calls Try.prog 52 #[.int .u64 a, .int .u64 b] w fun e w' => e = .returned (.int .u64 (Nat.gcd a b : Nat)) ∧ ∃ k, w' = w.drewN k := by
  go_enter Try.func52, Try.ntmps52
  go_wp2
  go_loopw [0, 1] (fun u v wr => ∃ x y k : Nat, u = .int .u64 x ∧ v = .int .u64 y ∧ x < 18446744073709551616 ∧ y < 18446744073709551616 ∧ Nat.gcd x y = Nat.gcd a b ∧ wr = w.drewN k) (fun _ v _ => (intOf v).toNat)
  case atStart => exact ⟨a, b, 0, rfl, rfl, ha, hb, rfl, rfl⟩
  case round =>
    obtain ⟨x, y, k, rfl, rfl, hx, hy, hg, rfl⟩ := hrel
    by_cases h0 : y = 0
    · subst h0
      have HG := Lib.hid hg
      clear hg
      go_wp2
      go_ret
      exact ⟨ret1 (vint (by have := HG.out; rw [← this]; simp)), _, rfl⟩
    · have hy0 : (0 : Int) < y := by omega
      have HG := Lib.hid hg
      clear hg
      go_wp2
      go_quiet (fail)
      go_wp2
      go_roundw
      case rel =>
        exact ⟨y, x % y, k + nq, rfl, by rw [Int.natCast_emod], hy, by have := Nat.mod_lt x (Nat.pos_of_ne_zero h0); omega, by rw [← HG.out, Nat.gcd_comm x y, Nat.gcd_rec y x]; exact Nat.gcd_comm _ _, by simp⟩
      case measure => simp [intOf]; have := Nat.mod_lt x (Nat.pos_of_ne_zero h0); omega

theorem call_gcd (a : Nat) (n : Int) (ha : a < 18446744073709551616) (_ : True) (wa : -9223372036854775808 ≤ n) (wa' : n ≤ 9223372036854775807) (w : World) :
    Calls Try.prog 51 #[.int .u64 a, .int .i64 n] w fun e w' => e = .returned (.int .u64 (gcdStep a n : Nat)) ∧ ∃ k, w' = w.drewN k := by
  go_enter Try.func51, Try.ntmps51
  go_wp2_with (first
    | (go_at_call 53; refine (num_size _ (by omega) (by omega) _).mono ?_; rintro e w' ⟨rfl, rfl⟩)
    | (go_at_call 52; refine (num_divisor _ _ (by omega) (by omega) _).mono ?_; rintro e w' ⟨rfl, k, rfl⟩))
  go_ret
  exact ⟨rfl, _, rfl⟩

theorem call_mul (m : Nat) (n : Int) (hm : 1 ≤ m ∧ m ≤ 262144) (hn : 1 ≤ n) (_ : -9223372036854775808 ≤ n) (wa' : n ≤ 9223372036854775807) (w : World) :
    Calls Try.prog 56 #[.int .u64 m, .int .i64 n] w fun e w' => e = .returned (.int .u64 (mulStep m n : Nat)) ∧ ∃ k, w' = w.drewN k := by
  by_cases h : 512 < m ∨ 512 < n
  · have e : mulStep m n = 513 := by unfold mulStep; rw [if_pos h]
    have HE := Lib.hid e
    clear e
    by_cases h1 : 512 < m
    · have h1' : (512 : Int) < m := by omega
      go_enter Try.func56, Try.ntmps56
      go_wp2
      go_ret
      exact ⟨ret1 (vint (by rw [HE.out]; rfl)), 0, rfl⟩
    · have h1' : (m : Int) ≤ 512 := by omega
      have h2 : 512 < n := by omega
      clear h
      go_enter Try.func56, Try.ntmps56
      go_wp2
      go_ret
      exact ⟨ret1 (vint (by rw [HE.out]; rfl)), 0, rfl⟩
  · have e : mulStep m n = m / Nat.gcd m n.toNat * n.toNat := by unfold mulStep; rw [if_neg h]
    have hb := mulStep_pos hm hn
    rw [e] at hb
    have h1' : (m : Int) ≤ 512 := by omega
    have h2 : n ≤ 512 := by omega
    obtain ⟨j, rfl⟩ : ∃ j : Nat, n = j := ⟨n.toNat, by omega⟩
    simp only [Int.toNat_natCast] at e hb
    have hg : 0 < Nat.gcd m j := Nat.gcd_pos_of_pos_left _ (by omega)
    have hg' : (0 : Int) < (Nat.gcd m j : Nat) := by omega
    have hd : m / Nat.gcd m j ≤ 512 := Nat.le_trans (Nat.div_le_self _ _) (by omega)
    have e2 : IntKind.u64.wrap (IntKind.u64.wrap ((m : Int) / ((Nat.gcd m j : Nat) : Int)) * (j : Int)) = ((mulStep m j : Nat) : Int) := by
      rw [← Int.natCast_ediv, e]
      generalize m / Nat.gcd m j = q at hb hd
      have h0 : IntKind.u64.wrap (q : Int) = q := IntWalk.u64_in _ (by omega)
      rw [h0, ← Int.natCast_mul]
      generalize q * j = r at hb
      exact IntWalk.u64_in _ (by omega)
    have HE := Lib.hid e2
    clear e e2 hb h hd
    go_enter Try.func56, Try.ntmps56
    go_wp2_with (go_at_call 52; refine (num_divisor _ _ (by omega) (by omega) _).mono ?_; rintro e w' ⟨rfl, k, rfl⟩)
    go_ret
    exact ⟨ret1 (vint HE.out), _, rfl⟩

theorem fold_gcd (w : World) (B : Nat) (A : Option Addr) (n c : Nat) (xs : List Int) (h : Ints w B A n xs) (hx : ∀ x ∈ xs, True) (a : Nat)
    (ha : ∀ b, b = a → b < 18446744073709551616) (hstep : ∀ (b : Nat) (x : Int), b < 18446744073709551616 → True → -9223372036854775808 ≤ x → x ≤ 9223372036854775807 → ∀ c, c = gcdStep b x → (fun b => b < 18446744073709551616) c) :
    Calls Try.prog 50 #[.slice A n c, .int .u64 a, .func (.func 51) #[] #[]] w fun e w' => e = .returned (.int .u64 (xs.foldl gcdStep a : Nat)) ∧ ∃ k, w' = w.drewN k := by
  have hn := h.small
  go_enter Try.func50, Try.ntmps50
  go_wp2
  go_loopw [1, 11] (fun u v wr => ∃ i k b : Nat, i ≤ n ∧ v = .int .i64 i ∧ u = .int .u64 b ∧ b = (xs.take i).foldl gcdStep a ∧ (b < 18446744073709551616) ∧ wr = w.drewN k) (fun _ v _ => n - (intOf v).toNat)
  case atStart => exact ⟨0, 0, a, Nat.zero_le _, rfl, rfl, rfl, ha a rfl, rfl⟩
  case round =>
    obtain ⟨i, k, b, hi, rfl, rfl, eb, hg, rfl⟩ := hrel
    have EB := Lib.hid eb
    clear eb
    by_cases hlt : i < n
    · obtain ⟨bl, off, rfl, hb, hc⟩ := h.cells (by omega)
      have hcell := hc i hlt
      have hr1 := (h.rng i).1
      have hr2 := (h.rng i).2
      have hm := hx _ (h.mem hlt)
      have HS := Lib.hid (hstep b _ hg hm hr1 hr2 _ rfl)
      have HE := Lib.hid (foldl_take gcdStep a xs (i := i) (by rw [h.len]; exact hlt))
      clear hc
      go_wp2_with (go_at_call 51; refine (call_gcd _ _ hg hm hr1 hr2 _).mono ?_; rintro e w' ⟨rfl, k', rfl⟩)
      go_roundw
      case rel => exact ⟨i + 1, k + k', _, by omega, by go_num, rfl, by rw [HE.out, ← EB.out], HS.out, by simp⟩
      case measure => simp [intOf]; omega
    · have e : n = i := by omega
      have HE := Lib.hid e
      have hge : ¬ i < n := hlt
      clear e
      go_wp2
      go_ret
      exact ⟨ret1 (vint (by rw [EB.out, List.take_of_length_le (by rw [h.len, HE.out]; exact Nat.le_refl _)])), _, rfl⟩
theorem fold_mul (w : World) (B : Nat) (A : Option Addr) (n c : Nat) (xs : List Int) (h : Ints w B A n xs) (hx : ∀ x ∈ xs, 1 ≤ x) (a : Nat)
    (ha : ∀ b, b = a → 1 ≤ b ∧ b ≤ 262144) (hstep : ∀ (b : Nat) (x : Int), 1 ≤ b ∧ b ≤ 262144 → 1 ≤ x → -9223372036854775808 ≤ x → x ≤ 9223372036854775807 → ∀ c, c = mulStep b x → (fun b => 1 ≤ b ∧ b ≤ 262144) c) :
    Calls Try.prog 50 #[.slice A n c, .int .u64 a, .func (.func 56) #[] #[]] w fun e w' => e = .returned (.int .u64 (xs.foldl mulStep a : Nat)) ∧ ∃ k, w' = w.drewN k := by
  have hn := h.small
  go_enter Try.func50, Try.ntmps50
  go_wp2
  go_loopw [1, 11] (fun u v wr => ∃ i k b : Nat, i ≤ n ∧ v = .int .i64 i ∧ u = .int .u64 b ∧ b = (xs.take i).foldl mulStep a ∧ (1 ≤ b ∧ b ≤ 262144) ∧ wr = w.drewN k) (fun _ v _ => n - (intOf v).toNat)
  case atStart => exact ⟨0, 0, a, Nat.zero_le _, rfl, rfl, rfl, ha a rfl, rfl⟩
  case round =>
    obtain ⟨i, k, b, hi, rfl, rfl, eb, hg, rfl⟩ := hrel
    have EB := Lib.hid eb
    clear eb
    by_cases hlt : i < n
    · obtain ⟨bl, off, rfl, hb, hc⟩ := h.cells (by omega)
      have hcell := hc i hlt
      have hr1 := (h.rng i).1
      have hr2 := (h.rng i).2
      have hm := hx _ (h.mem hlt)
      have HS := Lib.hid (hstep b _ hg hm hr1 hr2 _ rfl)
      have HE := Lib.hid (foldl_take mulStep a xs (i := i) (by rw [h.len]; exact hlt))
      clear hc
      go_wp2_with (go_at_call 56; refine (call_mul _ _ hg hm hr1 hr2 _).mono ?_; rintro e w' ⟨rfl, k', rfl⟩)
      go_roundw
      case rel => exact ⟨i + 1, k + k', _, by omega, by go_num, rfl, by rw [HE.out, ← EB.out], HS.out, by simp⟩
      case measure => simp [intOf]; omega
    · have e : n = i := by omega
      have HE := Lib.hid e
      have hge : ¬ i < n := hlt
      clear e
      go_wp2
      go_ret
      exact ⟨ret1 (vint (by rw [EB.out, List.take_of_length_le (by rw [h.len, HE.out]; exact Nat.le_refl _)])), _, rfl⟩

theorem gcdStep_lt (b : Nat) (x : Int) (hb : b < 18446744073709551616) (h1 : -9223372036854775808 ≤ x) (h2 : x ≤ 9223372036854775807) : gcdStep b x < 18446744073709551616 := by
  unfold gcdStep
  by_cases h0 : b = 0
  · subst h0; rw [Nat.gcd_zero_left]; omega
  · exact Nat.lt_of_le_of_lt (Nat.gcd_le_left _ (by omega)) hb

theorem fold_gcd0 (w : World) (B : Nat) (A : Option Addr) (n c : Nat) (xs : List Int) (h : Ints w B A n xs) :
    Calls Try.prog 50 #[.slice A n c, .int .u64 0, .func (.func 51) #[] #[]] w fun e w' => e = .returned (.int .u64 (xs.foldl gcdStep 0 : Nat)) ∧ ∃ k, w' = w.drewN k :=
  fold_gcd w B A n c xs h (fun _ _ => trivial) 0 (fun b hb => by omega) (fun b x hb _ h1 h2 c hc => by subst hc; exact gcdStep_lt b x hb h1 h2)

theorem fold_mul1 (w : World) (B : Nat) (A : Option Addr) (n c : Nat) (xs : List Int) (h : Ints w B A n xs) (hx : ∀ x ∈ xs, 1 ≤ x) :
    Calls Try.prog 50 #[.slice A n c, .int .u64 1, .func (.func 56) #[] #[]] w fun e w' => e = .returned (.int .u64 (xs.foldl mulStep 1 : Nat)) ∧ ∃ k, w' = w.drewN k :=
  fold_mul w B A n c xs h hx 1 (fun b hb => by omega) (fun b x hb hx _ _ c hc => by subst hc; exact mulStep_pos hb hx)

theorem call_ok (g : Bool) (n : Int) (w : World) : Calls Try.prog 55 #[.bool g, .int .i64 n] w fun e w' => e = .returned (.bool (okStep g n)) ∧ w = w' := by
  cases g
  · go_enter Try.func55, Try.ntmps55
    go_wp2
    go_ret
    exact ⟨rfl, rfl⟩
  · go_enter Try.func55, Try.ntmps55
    go_wp2
    go_ret
    exact ⟨ret_bool (by unfold okStep; simp), rfl⟩

theorem fold_ok (w : World) (B : Nat) (A : Option Addr) (n c : Nat) (xs : List Int) (h : Ints w B A n xs) (g : Bool) :
    Calls Try.prog 54 #[.slice A n c, .bool g, .func (.func 55) #[] #[]] w fun e w' => e = .returned (.bool (xs.foldl okStep g)) ∧ w = w' := by
  have hn := h.small
  go_enter Try.func54, Try.ntmps54
  go_wp2
  go_loop [1, 11] (fun u v => ∃ (i : Nat) (b : Bool), i ≤ n ∧ v = .int .i64 i ∧ u = .bool b ∧ b = (xs.take i).foldl okStep g) (fun _ v => n - (intOf v).toNat)
  case atStart => exact ⟨0, g, Nat.zero_le _, rfl, rfl, rfl⟩
  case round =>
    obtain ⟨i, b, hi, rfl, rfl, eb⟩ := hrel
    have EB := Lib.hid eb
    clear eb
    by_cases hlt : i < n
    · obtain ⟨bl, off, rfl, hb, hc⟩ := h.cells (by omega)
      have hcell := hc i hlt
      have HE := Lib.hid (foldl_take okStep g xs (i := i) (by rw [h.len]; exact hlt))
      clear hc
      go_wp2_with (go_at_call 55; refine (call_ok _ _ _).mono ?_; rintro e w' ⟨rfl, rfl⟩)
      go_round
      case rel => exact ⟨i + 1, _, by omega, by go_num, rfl, by rw [HE.out, ← EB.out]⟩
      case measure => simp [intOf]; omega
    · have e : n = i := by omega
      have HE := Lib.hid e
      have hge : ¬ i < n := hlt
      clear e
      go_wp2
      go_ret
      exact ⟨ret_bool (by rw [EB.out, List.take_of_length_le (by rw [h.len, HE.out]; exact Nat.le_refl _)]), rfl⟩

/-- 'num.Gcd': an error where the gcd is 2^63, which no int holds. -/
def gcdVal (xs : List Int) : Int := if xs.foldl gcdStep 0 = 9223372036854775808 then 0 else (xs.foldl gcdStep 0 : Nat)
def gcdErr (xs : List Int) : Int := if xs.foldl gcdStep 0 = 9223372036854775808 then 3 else 0

theorem num_gcd (w : World) (B : Nat) (A : Option Addr) (n c : Nat) (xs : List Int) (h : Ints w B A n xs) :
    Calls Try.prog 22 #[.slice A n c] w fun e w' => e = .returned (.tuple #[.int .i64 (gcdVal xs), .int .i64 (gcdErr xs)]) ∧ ∃ k, w' = w.drewN k := by
  have hb := gcd_fold_le xs h.wf 0 (by omega)
  by_cases hz : xs.foldl gcdStep 0 = 9223372036854775808
  · have HZ := Lib.hid (show gcdVal xs = 0 ∧ gcdErr xs = 3 from ⟨by unfold gcdVal; rw [if_pos hz], by unfold gcdErr; rw [if_pos hz]⟩)
    have hgt : (9223372036854775807 : Int) < ((xs.foldl gcdStep 0 : Nat) : Int) := by omega
    clear hz hb
    go_enter Try.func22, Try.ntmps22
    go_wp2_with (go_at_call 50; refine (fold_gcd0 _ B A n c xs h).mono ?_; rintro e w' ⟨rfl, k, rfl⟩)
    go_ret2
    exact ⟨ret2 (vint HZ.out.1.symm) (vint HZ.out.2.symm), _, rfl⟩
  · have HZ := Lib.hid (show gcdVal xs = (xs.foldl gcdStep 0 : Nat) ∧ gcdErr xs = 0 from ⟨by unfold gcdVal; rw [if_neg hz], by unfold gcdErr; rw [if_neg hz]⟩)
    have hgt : ((xs.foldl gcdStep 0 : Nat) : Int) ≤ 9223372036854775807 := by omega
    clear hz hb
    go_enter Try.func22, Try.ntmps22
    go_wp2_with (go_at_call 50; refine (fold_gcd0 _ B A n c xs h).mono ?_; rintro e w' ⟨rfl, k, rfl⟩)
    go_ret2
    exact ⟨ret2 (vint HZ.out.1.symm) (vint HZ.out.2.symm), _, rfl⟩

/-- 'num.Lcm' -/
def lcmVal (xs : List Int) : Int := if ∀ x ∈ xs, 1 ≤ x then (if xs.foldl mulStep 1 ≤ 512 then (xs.foldl mulStep 1 : Nat) else 0) else 0
def lcmErr (xs : List Int) : Int := if ∀ x ∈ xs, 1 ≤ x then (if xs.foldl mulStep 1 ≤ 512 then 0 else 3) else 1

theorem num_lcm (w : World) (B : Nat) (A : Option Addr) (n c : Nat) (xs : List Int) (h : Ints w B A n xs) :
    Calls Try.prog 23 #[.slice A n c] w fun e w' => e = .returned (.tuple #[.int .i64 (lcmVal xs), .int .i64 (lcmErr xs)]) ∧ ∃ k, w' = w.drewN k := by
  by_cases hx : ∀ x ∈ xs, 1 ≤ x
  · have e0 : xs.foldl okStep true = true := by rw [okStep_all]; simpa using hx
    have HX := Lib.hid hx
    have hpos : 1 ≤ xs.foldl mulStep 1 := by
      rcases lcm_list xs hx with h | h
      · exact h.2.1
      · omega
    by_cases hz : xs.foldl mulStep 1 ≤ 512
    · have HZ := Lib.hid (show lcmVal xs = (xs.foldl mulStep 1 : Nat) ∧ lcmErr xs = 0 from ⟨by unfold lcmVal; rw [if_pos hx, if_pos hz], by unfold lcmErr; rw [if_pos hx, if_pos hz]⟩)
      have hz' : ((xs.foldl mulStep 1 : Nat) : Int) ≤ 512 := by omega
      clear hx hz
      go_enter Try.func23, Try.ntmps23
      go_wp2_with (first
        | (go_at_call 54; refine (fold_ok _ B A n c xs h true).mono ?_; rintro e w' ⟨rfl, rfl⟩)
        | (go_at_call 50; refine (fold_mul1 _ B A n c xs h HX.out).mono ?_; rintro e w' ⟨rfl, k, rfl⟩))
      go_ret2
      exact ⟨ret2 (vint HZ.out.1.symm) (vint HZ.out.2.symm), _, rfl⟩
    · have HZ := Lib.hid (show lcmVal xs = 0 ∧ lcmErr xs = 3 from ⟨by unfold lcmVal; rw [if_pos hx, if_neg hz], by unfold lcmErr; rw [if_pos hx, if_neg hz]⟩)
      have hz' : (512 : Int) < ((xs.foldl mulStep 1 : Nat) : Int) := by omega
      clear hx hz
      go_enter Try.func23, Try.ntmps23
      go_wp2_with (first
        | (go_at_call 54; refine (fold_ok _ B A n c xs h true).mono ?_; rintro e w' ⟨rfl, rfl⟩)
        | (go_at_call 50; refine (fold_mul1 _ B A n c xs h HX.out).mono ?_; rintro e w' ⟨rfl, k, rfl⟩))
      go_ret2
      exact ⟨ret2 (vint HZ.out.1.symm) (vint HZ.out.2.symm), _, rfl⟩
  · have e0 : xs.foldl okStep true = false := by
      rw [okStep_all, Bool.true_and, Bool.eq_false_iff]
      intro h1; exact hx (by simpa using h1)
    have HZ := Lib.hid (show lcmVal xs = 0 ∧ lcmErr xs = 1 from ⟨by unfold lcmVal; rw [if_neg hx], by unfold lcmErr; rw [if_neg hx]⟩)
    clear hx
    go_enter Try.func23, Try.ntmps23
    go_wp2_with (go_at_call 54; refine (fold_ok _ B A n c xs h true).mono ?_; rintro e w' ⟨rfl, rfl⟩)
    go_ret2
    exact ⟨ret2 (vint HZ.out.1.symm) (vint HZ.out.2.symm), 0, rfl⟩
end Go.Proofs.Ytlahomobecfghaa
