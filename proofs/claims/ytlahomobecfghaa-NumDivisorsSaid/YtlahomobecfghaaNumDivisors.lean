/-
  For all lists l of integers and every integer d, NumDivisors returns true and leaves memory as it was. No condition.
-/
import Derived.Test.YtlahomobecfghaaRows
import Derived.Test.YtlahomobecfghaaKit
import Derived.Test.YtlahomobecfghaaNumBase
import Derived.Test.YtlahomobecfghaaNumGcd
set_option linter.unusedVariables false
namespace Go.Proofs.Ytlahomobecfghaa.numDivisors
open Go.ChangeShapes Go.WideShapes Go.ChangeAt Go.RowKit

def dvStep (d : Int) (g : Bool) (n : Int) : Bool := g && decide (d ∣ n)

theorem dvStep_all (d : Int) (xs : List Int) : ∀ g, xs.foldl (dvStep d) g = (g && xs.all fun n => decide (d ∣ n)) := by
  induction xs with
  | nil => intro g; simp
  | cons x r ih => intro g; simp only [List.foldl_cons, ih, dvStep, List.all_cons]; rw [Bool.and_assoc]

theorem dvd_gcd {d : Int} {xs : List Int} (h : xs.foldl (dvStep d) true = true) : d ∣ ((xs.foldl gcdStep 0 : Nat) : Int) := by
  rw [dvStep_all, Bool.true_and, List.all_eq_true] at h
  have := (gcd_fold xs 0).2.2 d.natAbs (by simp) fun y hy => Int.natAbs_dvd_natAbs.2 (by simpa using h y hy)
  exact Int.natAbs_dvd_natAbs.1 (by simpa using this)

theorem gcd_dvd {xs : List Int} {x : Int} (h : x ∈ xs) : ((xs.foldl gcdStep 0 : Nat) : Int) ∣ x := Int.ofNat_dvd_left.2 ((gcd_fold xs 0).2.1 x h)

set_option maxHeartbeats 4000000 in
theorem walk (w : World) (A : Option Addr) (n c : Nat) (xs : List Int) (h : Ints w w.heap.size A n xs) (d : Int) (wd : -9223372036854775808 ≤ d) (wd' : d ≤ 9223372036854775807) :
    Calls Try.prog 9 #[.slice A n c, .int .i64 d] w fun e w' => e = .returned (.bool true) ∧ Below w.heap.size w w' := by
  have hb := gcd_fold_le xs h.wf 0 (by omega)
  have hn := h.small
  by_cases hz : xs.foldl gcdStep 0 = 9223372036854775808
  · have HZ := Lib.hid (show gcdVal xs = 0 ∧ gcdErr xs = 3 from ⟨by unfold gcdVal; rw [if_pos hz], by unfold gcdErr; rw [if_pos hz]⟩)
    clear hz hb
    go_enter Try.func9, Try.ntmps9
    go_wp2_with (first
      | (go_at_call 22; refine (num_gcd _ _ A n c xs h).mono ?_; rintro e w' ⟨rfl, k, rfl⟩; rw [HZ.out.1, HZ.out.2])
      | (go_at_call 21; refine (awake1 _).mono ?_; rintro e w' ⟨rfl, k, rfl⟩))
    go_ret
    exact ⟨rfl, by first | exact below_of_drewN _ | (simp only [World.drewN_drewN]; exact below_of_drewN _)⟩
  · have HZ := Lib.hid (show gcdVal xs = (xs.foldl gcdStep 0 : Nat) ∧ gcdErr xs = 0 from ⟨by unfold gcdVal; rw [if_neg hz], by unfold gcdErr; rw [if_neg hz]⟩)
    have hD : ∀ x ∈ xs, ((xs.foldl gcdStep 0 : Nat) : Int) ∣ x := fun x hx => gcd_dvd hx
    have hC : xs.foldl (dvStep d) true = true → d ∣ ((xs.foldl gcdStep 0 : Nat) : Int) := dvd_gcd
    have HC := Lib.hid hC
    have HD := Lib.hid hD
    clear hC hD
    have hlt : xs.foldl gcdStep 0 ≤ 9223372036854775807 := by omega
    clear hz hb
    generalize xs.foldl gcdStep 0 = G at HZ HC HD hlt
    have hlt' : (G : Int) ≤ 9223372036854775807 := by omega
    have hd0 : (d = 0) ∨ ((d == 0) = false ∧ (d != 0) = true ∧ d ≠ 0) := by
      by_cases h : d = 0
      · exact .inl h
      · exact .inr ⟨by simpa using h, by simpa using h, h⟩
    go_enter Try.func9, Try.ntmps9
    go_wp2_with (go_at_call 22; refine (num_gcd _ _ A n c xs h).mono ?_; rintro e w' ⟨rfl, k, rfl⟩; rw [HZ.out.1, HZ.out.2])
    go_loop [7, 28] (fun u v => ∃ (i : Nat) (b : Bool), i ≤ n ∧ v = .int .i64 i ∧ u = .bool b ∧ b = (xs.take i).foldl (dvStep d) true) (fun _ v => n - (intOf v).toNat)
    case atStart => exact ⟨0, true, Nat.zero_le _, rfl, rfl, rfl⟩
    case round =>
      obtain ⟨i, b, hi, rfl, rfl, eb⟩ := hrel
      have EB := Lib.hid eb
      clear eb
      by_cases hlt : i < n
      · obtain ⟨bl, off, rfl, hb, hc⟩ := h.cells (by omega)
        have hcell := hc i hlt
        have hdv := HD.out _ (h.mem hlt)
        have HE := Lib.hid (foldl_take (dvStep d) true xs (i := i) (by rw [h.len]; exact hlt))
        have hrng := h.rng i
        clear hc
        have key : ∀ m : Bool, m = decide (d ∣ xs[i]?.getD 0) → (b && m) = (xs.take (i + 1)).foldl (dvStep d) true := fun m e => by rw [HE.out, ← EB.out, e]; rfl
        have KEY := Lib.hid key
        have hdn : (d ∣ xs[i]?.getD 0 ∧ (xs[i]?.getD 0).tmod d = 0) ∨ (¬ d ∣ xs[i]?.getD 0 ∧ ((xs[i]?.getD 0).tmod d == 0) = false ∧ ((xs[i]?.getD 0).tmod d != 0) = true) := by
          by_cases hq : d ∣ xs[i]?.getD 0
          · exact .inl ⟨hq, Int.tmod_eq_zero_of_dvd hq⟩
          · have : (xs[i]?.getD 0).tmod d ≠ 0 := fun h => hq (Int.dvd_of_tmod_eq_zero h)
            exact .inr ⟨hq, by simpa using this, by simpa using this⟩
        by_cases hG : G = 0
        · subst hG
          have hx0 : xs[i]?.getD 0 = 0 := Int.zero_dvd.1 (by simpa using hdv)
          rw [hx0] at hcell hdn hrng
          have KE := Lib.hid (show (b && true) = _ from key true (by rw [hx0]; simp))
          clear key hdn hrng hx0
          cases b <;> rcases hd0 with rfl | ⟨d1, d2, d3⟩
          all_goals
            go_wp2
            go_round
            case rel => exact ⟨i + 1, _, by omega, by go_num, rfl, KE.out⟩
            case measure => simp [intOf]; omega
        · have g1 : (0 : Int) < (G : Int) := by omega
          have ht : (xs[i]?.getD 0).tmod (G : Int) = 0 := Int.tmod_eq_zero_of_dvd hdv
          rcases hdn with ⟨hq, q1⟩ | ⟨hq, q1, q2⟩
          · have KE := Lib.hid (show (b && true) = _ from key true (by simpa using hq))
            clear key
            cases b <;> rcases hd0 with rfl | ⟨d1, d2, d3⟩
            all_goals
              have hq0 := hq
              (try simp only [Int.zero_dvd] at hq0)
              go_wp2
              go_round
              case rel => exact ⟨i + 1, _, by omega, by go_num, rfl, KE.out⟩
              case measure => simp [intOf]; omega
          · have KE := Lib.hid (show (b && false) = _ from key false (by simpa using hq))
            clear key
            cases b <;> rcases hd0 with rfl | ⟨d1, d2, d3⟩
            all_goals
              have hq0 := hq
              (try simp only [Int.zero_dvd] at hq0)
              (try have hq1 : (xs[i]?.getD 0 == 0) = false := by simpa using hq0)
              go_wp2
              go_round
              case rel => exact ⟨i + 1, _, by omega, by go_num, rfl, KE.out⟩
              case measure => simp [intOf]; omega
      · have HE := Lib.hid (show b = xs.foldl (dvStep d) true by rw [EB.out, List.take_of_length_le (by rw [h.len]; omega)])
        have hge : ¬ i < n := hlt
        have hfin : b = true → d ∣ (G : Int) := fun e => HC.out (by rw [← HE.out, e])
        cases b
        · go_wp2_with (go_at_call 21; refine (awake1 _).mono ?_; rintro e w' ⟨rfl, k, rfl⟩)
          go_ret
          exact ⟨rfl, by first | exact below_of_drewN _ | (simp only [World.drewN_drewN]; exact below_of_drewN _)⟩
        · have hdg := hfin rfl
          rcases hd0 with rfl | ⟨d1, d2, d3⟩
          · obtain rfl : G = 0 := by have := Int.zero_dvd.1 hdg; omega
            clear hfin hdg
            go_wp2_with (go_at_call 21; refine (awake1 _).mono ?_; rintro e w' ⟨rfl, k, rfl⟩)
            go_ret
            exact ⟨rfl, by first | exact below_of_drewN _ | (simp only [World.drewN_drewN]; exact below_of_drewN _)⟩
          · have ht : (G : Int).tmod d = 0 := Int.tmod_eq_zero_of_dvd hdg
            clear hfin hdg
            go_wp2_with (go_at_call 21; refine (awake1 _).mono ?_; rintro e w' ⟨rfl, k, rfl⟩)
            go_ret
            exact ⟨rfl, by first | exact below_of_drewN _ | (simp only [World.drewN_drewN]; exact below_of_drewN _)⟩

set_option maxRecDepth 100000 in
theorem lifted (os : Os) (started : os.Started) (H : Type) (enc : TypeId × Value → H) :
    ReturnsInHanded {} Try.checked os 9 .any (Rows.numDivisorsSpec.pre6 enc Try.prog Try.f9 Rows.numDivisorsRow.domain false) (Rows.numDivisorsSpec.post enc Try.prog Try.f9 false true false false) := by
  refine returnsInHanded_of_change_sized (C := Try.checked) own started (by kernel_rfl) Try.func9
    (ChangeSpec.witness6 (enc := enc) (C := Try.checked) false ⟨#[], #[.slice none 0 0, .int .i64 0], []⟩ 8 (by kernel_rfl) (by kernel_rfl) (by kernel_rfl) (by kernel_rfl)) ?_
  intro W base args ds gs before hval0 hW _ hsz0 _
  have hval : ∀ (j : Nat) t v, Try.f9.params[j]? = some t → args[j]? = some v → Value.okWide Try.prog W .any base t v := hval0
  have hW' := hW
  have hlt := hW.lt
  obtain ⟨p, q, hA0, hV, rfl, hfz, hnd⟩ := hW
  have hA : DataW.TrodAll enc Try.prog W 0 (fun _ => true) true Try.f9.params.toList args.toList ds p := hA0
  have hsz : (DataW.weightsEach Try.prog (Try.f9.params.toList ++ []) (ds ++ gs)).all (· ≤ reachBytes) = true := hsz0
  rw [Try.params9] at hA hval hsz
  obtain ⟨rfl, rfl⟩ := trodVars_none hV
  obtain ⟨v0, vs0, d0, ds0, p0, q0, hargs, rfl, rfl, h0, r0⟩ := trodAll_cons hA
  obtain ⟨v1, vs1, d1, ds1, p1, q1, rfl, rfl, rfl, h1, r1⟩ := trodAll_cons r0
  obtain ⟨rfl, rfl, rfl⟩ := trodAll_nil r1
  obtain rfl : args = #[v0, v1] := by cases args; simp_all
  obtain ⟨z0, hsz⟩ := weights_cons hsz
  obtain ⟨z1, hsz⟩ := weights_cons hsz
  have hpost : ∀ W' : World, Below W.heap.size W W' → ∃ v, Ending.returned (.bool true) = .returned v ∧ Rows.numDivisorsSpec.post enc Try.prog Try.f9 false true false false W #[v0, v1] v W' :=
    fun W' hb => ⟨_, rfl, law_post laidOut (of_decide_eq_true (by kernel_rfl)) rfl rfl Try.underlying4 rfl hW' hb⟩
  obtain ⟨A0, n0, c0, xs0, rfl, I0⟩ := ints_of Try.underlying27 Try.underlying3 (by kernel_rfl) (by kernel_rfl) (hval 0 27 v0 rfl rfl) (fun x hx => hlt x (by simp only [List.mem_append]; simp [hx])) z0 h0
  obtain ⟨a1, rfl, rfl, rfl, w1⟩ := open_int Try.underlying3 (hval 1 3 v1 rfl rfl) h1
  have b1 := bounds_i64 w1
  refine (walk A0 n0 c0 xs0 I0 a1 b1.1 b1.2 (w := W)).mono fun e W' ⟨he, hb⟩ => ?_
  subst he
  exact hpost W' hb

theorem proved : Rows.NumDivisorsSaid :=
  OpenClaim.holds_of_wide 9 Try.f9 rfl rfl rfl rfl rfl rfl rfl ⟨rfl, rfl, rfl, rfl, rfl⟩ rfl rfl rfl rfl rfl (by kernel_rfl) Try.func9 (by kernel_rfl)
    (of_decide_eq_true (by kernel_rfl)) (by unfold Func.isWrapper; first | (rw [if_pos (by decide +kernel)]; kernel_rfl) | (rw [if_neg (by decide +kernel)]; exact ⟨rfl, rfl⟩))
    (fun os started H enc _ => lifted os started H enc)
#print axioms proved
end Go.Proofs.Ytlahomobecfghaa.numDivisors
