/-
  The small functions of package wide.
-/
import Derived.Test.YtbjkijifpikhkaaProg
import Derived.Test.YtbjkijifpikhkaaKit
import Derived.Test.YtbjkijifpikhkaaLinKit
import Derived.Test.YtbjkijifpikhkaaLinClone
import Derived.Test.YtbjkijifpikhkaaNumBase
import Derived.Test.YtbjkijifpikhkaaNumMath
import Derived.Test.YtbjkijifpikhkaaLinPut
import Derived.Test.YtbjkijifpikhkaaCondKit
namespace Go.Proofs.Ytbjkijifpikhkaa
open Go.RowKit
set_option linter.unusedVariables false
set_option linter.unusedSimpArgs false

theorem wide_floor (a b : Int) (wa : -9223372036854775808 ≤ a) (wa' : a ≤ 9223372036854775807) (wb : b ≤ 9223372036854775807) (hb : 1 ≤ b) (w : World) : Calls Try.prog 67 #[.int .i64 a, .int .i64 b] w fun e w' => e = .returned (.int .i64 (a / b)) ∧ w = w' := by
  have hc := tmod_cases a b hb
  have hd := div_bd a b hb
  have m0 := Int.emod_nonneg a (show b ≠ 0 by omega)
  have m1 := Int.emod_lt_of_pos a (show 0 < b by omega)
  rcases hc with ⟨h1, h2, h3⟩ | ⟨h1, h2, h3, h4⟩
  · have HC := Lib.hid (And.intro h1 h2)
    clear h1 h2
    have g1 : 0 ≤ a.tmod b := by have := HC.out; omega
    clear m0 m1 hd
    go_enter Try.func67, Try.ntmps67
    go_wp2
    go_ret
    exact ⟨ret1 (vint HC.out.2), rfl⟩
  · have HC := Lib.hid (And.intro h1 (And.intro h2 (And.intro h3 (And.intro hd h4))))
    have g1 : a.tmod b < 0 := by omega
    clear h1 h2 h4 hd m0 m1
    go_enter Try.func67, Try.ntmps67
    go_wp2
    go_ret
    exact ⟨ret1 (vint (by have := HC.out; unfold wrap64; omega)), rfl⟩

theorem wide_mod (a b : Int) (wa : -9223372036854775808 ≤ a) (wa' : a ≤ 9223372036854775807) (wb : b ≤ 9223372036854775807) (hb : 1 ≤ b) (w : World) : Calls Try.prog 69 #[.int .i64 a, .int .i64 b] w fun e w' => e = .returned (.int .i64 (a % b)) ∧ w = w' := by
  have hc := tmod_cases a b hb
  have m0 := Int.emod_nonneg a (show b ≠ 0 by omega)
  have m1 := Int.emod_lt_of_pos a (show 0 < b by omega)
  have HC := Lib.hid (And.intro hc (And.intro m0 m1))
  clear hc m0 m1
  by_cases g1 : a.tmod b < 0
  · go_enter Try.func69, Try.ntmps69
    go_wp2
    go_ret
    exact ⟨ret1 (vint (by have := HC.out; unfold wrap64; omega)), rfl⟩
  · go_enter Try.func69, Try.ntmps69
    go_wp2
    go_ret
    exact ⟨ret1 (vint (by have := HC.out; omega)), rfl⟩

/-- The greatest common divisor of g and a list. -/
def gcdA (g : Nat) (xs : List Int) : Nat := xs.foldl (fun a x => Nat.gcd a x.natAbs) g

theorem gcdA_step {g : Nat} {xs : List Int} {i : Nat} (hi : i < xs.length) : gcdA g (xs.take (i + 1)) = Nat.gcd (gcdA g (xs.take i)) (xs[i]?.getD 0).natAbs := by
  unfold gcdA; exact foldl_take _ _ _ hi
theorem natAbs_tmod (a b : Int) : (a.tmod b).natAbs = a.natAbs % b.natAbs := by
  rw [Int.natAbs_tmod]

set_option maxHeartbeats 2000000 in
theorem wide_divisor (g : Int) (hg : -4611686018427387904 ≤ g ∧ g ≤ 4611686018427387904) (A : Option Addr) (n c : Nat) (xs : List Int) (hx : ∀ x ∈ xs, -4611686018427387904 ≤ x ∧ x ≤ 4611686018427387904) (w : World) (h : IntsAt w A n xs) :
    Calls Try.prog 46 #[.int .i64 g, .slice A n c] w fun e w' => e = .returned (.int .i64 (gcdA g.natAbs xs : Nat)) ∧ ∃ k, w' = w.drewN k := by
  have hsm := h.small
  have HL := Lib.hid h.len
  have HX := Lib.hid hx
  clear hx
  go_enter Try.func46, Try.ntmps46
  go_wp2
  go_loopw [0, 9] (fun u v wr => ∃ (i k : Nat) (a : Int), i ≤ n ∧ v = .int .i64 i ∧ u = .int .i64 a ∧ (-4611686018427387904 ≤ a ∧ a ≤ 4611686018427387904) ∧ a.natAbs = gcdA g.natAbs (xs.take i) ∧ wr = w.drewN k) (fun _ v _ => n - (intOf v).toNat)
  case atStart => exact ⟨0, 0, g, Nat.zero_le _, rfl, rfl, hg, by simp [gcdA], rfl⟩
  case round =>
    obtain ⟨i, k, a, hi, rfl, rfl, ha, hga, rfl⟩ := hrel
    have HG := Lib.hid hga
    clear hga
    by_cases hlt : i < n
    · have hmem := h.mem hlt
      have hr := HX.out _ hmem
      obtain ⟨b, off, rfl, hb, hc⟩ := h.cells (by omega)
      have hcell := hc i hlt
      have HS := Lib.hid (gcdA_step (g := g.natAbs) (xs := xs) (i := i) (by rw [HL.out]; exact hlt))
      clear hc hmem
      obtain ⟨x, hxx⟩ : ∃ x, xs[i]?.getD 0 = x := ⟨_, rfl⟩
      rw [hxx] at hcell hr HS
      clear hxx
      have hlt' : (i : Int) < n := by omega
      go_wp2
      go_loopw [0, 6] (fun u v wr => ∃ (a' x' : Int) (k' : Nat), u = .int .i64 a' ∧ v = .int .i64 x' ∧ (-4611686018427387904 ≤ a' ∧ a' ≤ 4611686018427387904) ∧ (-4611686018427387904 ≤ x' ∧ x' ≤ 4611686018427387904) ∧ Nat.gcd a'.natAbs x'.natAbs = Nat.gcd a.natAbs x.natAbs ∧ wr = w.drewN k') (fun _ v _ => (intOf v).natAbs)
      case atStart => exact ⟨a, x, k, rfl, rfl, ha, hr, rfl, rfl⟩
      case round =>
        obtain ⟨a', x', k', rfl, rfl, ha', hx', hgg, rfl⟩ := hrel
        have HH := Lib.hid hgg
        clear hgg
        by_cases h0 : x' = 0
        · subst h0
          go_wp2
          go_roundw
          case rel => exact ⟨i + 1, _, a', by omega, by go_num, rfl, ha', by have := HH.out; rw [HS.out, ← HG.out, ← this]; simp, by first | rfl | (simp only [World.drewN_drewN]; rfl)⟩
          case measure => simp [intOf]; omega
        · have q1 : (x' != 0) = true := by simpa using h0
          have q2 : (x' == 0) = false := by simpa using h0
          have hlt2 : (a'.tmod x').natAbs < x'.natAbs := by rw [natAbs_tmod]; exact Nat.mod_lt _ (by omega)
          have hg2 : Nat.gcd x'.natAbs (a'.tmod x').natAbs = Nat.gcd a'.natAbs x'.natAbs := by
            rw [natAbs_tmod, Nat.gcd_comm a'.natAbs x'.natAbs, Nat.gcd_rec x'.natAbs a'.natAbs]
            exact Nat.gcd_comm _ _
          have HH2 := Lib.hid (hg2.trans HH.out)
          have hw : IntKind.i64.wrap (a'.tmod x') = a'.tmod x' := IntWalk.i64_in _ (by omega)
          have HL2 := Lib.hid hlt2
          clear hg2
          go_wp2
          go_quiet (fail)
          go_wp2
          go_roundw
          case rel => exact ⟨x', a'.tmod x', _, rfl, by first | rfl | simp [hw], hx', by have := HL2.out; omega, HH2.out, by first | rfl | (simp only [World.drewN_drewN]; rfl)⟩
          case measure => first | (simp only [intOf]; exact HL2.out) | (simp [intOf, hw]; exact HL2.out)
    · obtain rfl : i = n := by omega
      have hge : ¬ ((i : Int) < i) := by omega
      have HT := Lib.hid (show a.natAbs = gcdA g.natAbs xs by rw [HG.out, List.take_of_length_le (by rw [HL.out]; exact Nat.le_refl _)])
      go_wp2
      all_goals
        go_ret
        exact ⟨ret1 (vint (by have := HT.out; omega)), _, rfl⟩

/-- What a condition without variables comes to. -/
theorem wide_verdict (b : Bool) (w : World) : Calls Try.prog 65 #[.bool b] w fun e w' => e = .returned (.tuple #[condV 0 0 none 0 0 0, .int .i64 (if b then 1 else -1)]) ∧ Below w.heap.size w w' := by
  have hB := below_alloc w (.cells #[.int .i64 0, .int .i64 0, .slice none 0 0, .int .i64 0] 26)
  have B1 := CBox.new w 0 0 none 0 0 0
  cases b
  all_goals
    go_enter Try.func65, Try.ntmps65
    go_wp2
    first
      | exact bodyPost_ret (v := .tuple #[condV 0 0 none 0 0 0, .int .i64 (-1)]) (by simp [results, Try.results65, go_sem]) rfl ⟨rfl, hB⟩
      | exact bodyPost_ret (v := .tuple #[condV 0 0 none 0 0 0, .int .i64 1]) (by simp [results, Try.results65, go_sem]) rfl ⟨rfl, hB⟩

/-- The quotients of the first i elements, zeros behind. -/
def quoTo (n : Nat) (xs : List Int) (b : Int) (i : Nat) : List Int := (List.range n).map fun j => if j < i then (xs[j]?.getD 0).tdiv b else 0
def quoL (n : Nat) (xs : List Int) (b : Int) : List Int := (List.range n).map fun j => (xs[j]?.getD 0).tdiv b
theorem quo_zero (n : Nat) (xs : List Int) (b : Int) : quoTo n xs b 0 = zeros n := by
  apply List.ext_getElem (by simp [quoTo, zeros])
  intro j h1 h2
  simp [quoTo, zeros]
theorem quo_step (n : Nat) (xs : List Int) (b : Int) (i : Nat) : (quoTo n xs b i).set i ((xs[i]?.getD 0).tdiv b) = quoTo n xs b (i + 1) := by
  unfold quoTo
  rw [tab_set]
  apply List.map_congr_left
  intro j _
  by_cases e : j = i
  · subst e; simp
  · have : (j < i + 1) ↔ (j < i) := by omega
    simp [e, this]
theorem quo_all (n : Nat) (xs : List Int) (b : Int) : quoTo n xs b n = quoL n xs b := by
  apply List.map_congr_left
  intro j hj
  rw [if_pos (List.mem_range.1 hj)]
theorem tdiv_bd (x b : Int) (hb : b ≠ 0) : (x.tdiv b).natAbs ≤ x.natAbs := by
  rw [Int.natAbs_tdiv]; exact Nat.div_le_self _ _
theorem quo_wf {n : Nat} {xs : List Int} {b : Int} (hb : b ≠ 0) (hx : ∀ x ∈ xs, -4611686018427387904 ≤ x ∧ x ≤ 4611686018427387904) : ∀ z ∈ quoL n xs b, -4611686018427387904 ≤ z ∧ z ≤ 4611686018427387904 := by
  intro z hz
  obtain ⟨j, _, rfl⟩ := List.mem_map.1 hz
  have h := tdiv_bd (xs[j]?.getD 0) b hb
  by_cases hj : j < xs.length
  · have := hx _ (getD_mem hj)
    omega
  · have e : xs[j]?.getD 0 = 0 := by simp [hj]
    rw [e] at h ⊢
    simp

set_option maxHeartbeats 2000000 in
theorem wide_quotients (A : Option Addr) (n c : Nat) (xs : List Int) (b : Int) (hb : b ≠ 0) (hbw : -4611686018427387904 ≤ b ∧ b ≤ 4611686018427387904) (hx : ∀ x ∈ xs, -4611686018427387904 ≤ x ∧ x ≤ 4611686018427387904) (w : World) (hI : IntsAt w A n xs) :
    Calls Try.prog 66 #[.slice A n c, .int .i64 b] w fun e w' => ∃ g, e = .returned (.slice (some ⟨g, 0, none⟩) n n) ∧ w.heap.size ≤ g ∧ OwnRow w' g n (quoL n xs b) ∧ Below w.heap.size w w' := by
  have hsm := hI.small
  have hmk := make_ints n hsm
  have hrow0 := OwnRow.new w (zeros n) n (zeros_len n)
  have hB0 := below_alloc w (.cells ((zeros n).map (Value.int .i64)).toArray 3)
  have HX := Lib.hid hx
  have q0 : (b == 0) = false := by simpa using hb
  clear hx
  go_enter Try.func66, Try.ntmps66
  go_wp2
  go_loopw [13] (fun v wr => ∃ i : Nat, i ≤ n ∧ v = .int .i64 i ∧ OwnRow wr w.heap.size n (quoTo n xs b i) ∧ Below w.heap.size w wr) (fun v _ => n - (intOf v).toNat)
  case atStart => exact ⟨0, Nat.zero_le _, rfl, by rw [quo_zero]; exact hrow0, hB0⟩
  case round =>
    obtain ⟨i, hi, rfl, hrow, hBw⟩ := hrel
    clear hrow0 hB0 hmk
    by_cases hlt : i < n
    · have hr := HX.out _ (hI.mem hlt)
      obtain ⟨bl, off, rfl, hbl, hc⟩ := hI.cells (by omega)
      have hcell := (hBw.cell (p := ⟨bl, off + i, none⟩) hbl).trans (hc i hlt)
      have hfr := hrow.free i
      have hcr := hrow.cell hlt
      have q1 : (i : Int) < n := by omega
      have R := (hrow.set hlt ((xs[i]?.getD 0).tdiv b))
      rw [quo_step] at R
      have hW := hBw.setCell (p := ⟨w.heap.size, i, none⟩) (Nat.le_refl _) (.int .i64 ((xs[i]?.getD 0).tdiv b))
      generalize xs[i]?.getD 0 = x at *
      have hq := tdiv_bd x b hb
      have hw : IntKind.i64.wrap (x.tdiv b) = x.tdiv b := IntWalk.i64_in _ (by omega)
      have HR := Lib.hid R
      clear hc R hq
      go_wp2
      go_roundw
      case rel => exact ⟨i + 1, by omega, by go_num, HR.out, hW⟩
      case measure => simp [intOf]; omega
    · obtain rfl : i = n := by omega
      rw [quo_all] at hrow
      have hge : ¬ ((i : Int) < i) := by omega
      go_wp2
      go_ret
      exact ⟨_, rfl, Nat.le_refl _, hrow, hBw⟩

/-- The first element that is not 0. -/
def leadI : List Int → Int
  | [] => 0
  | x :: xs => if x = 0 then leadI xs else x
theorem lead_skip : ∀ (i : Nat) (xs : List Int), i ≤ xs.length → (∀ j, j < i → xs[j]?.getD 0 = 0) → leadI xs = leadI (xs.drop i)
  | 0, _, _, _ => rfl
  | i + 1, [], h, _ => by simp at h
  | i + 1, x :: xs, h, hz => by
    have h0 : x = 0 := by simpa using hz 0 (by omega)
    have := lead_skip i xs (by simpa using h) (fun j hj => by simpa using hz (j + 1) (by omega))
    simp only [leadI, if_pos h0, List.drop_succ_cons]
    exact this
theorem lead_at {i : Nat} {xs : List Int} (hi : i < xs.length) (hz : ∀ j, j < i → xs[j]?.getD 0 = 0) (hx : xs[i]?.getD 0 ≠ 0) : leadI xs = xs[i]?.getD 0 := by
  rw [lead_skip i xs (by omega) hz, List.drop_eq_getElem_cons hi]
  have e : xs[i]?.getD 0 = xs[i] := by simp [hi]
  rw [e] at hx ⊢
  simp only [leadI, if_neg hx]

theorem wide_lead (A : Option Addr) (n c : Nat) (xs : List Int) (w : World) (hI : IntsAt w A n xs) :
    Calls Try.prog 68 #[.slice A n c] w fun e w' => e = .returned (.int .i64 (leadI xs)) ∧ w = w' := by
  have hsm := hI.small
  have HL := Lib.hid hI.len
  go_enter Try.func68, Try.ntmps68
  go_wp2
  go_loop [7] (fun v => ∃ i : Nat, i ≤ n ∧ v = .int .i64 i ∧ ∀ j, j < i → xs[j]?.getD 0 = 0) (fun v => n - (intOf v).toNat)
  case atStart => exact ⟨0, Nat.zero_le _, rfl, fun j hj => absurd hj (by omega)⟩
  case round =>
    obtain ⟨i, hi, rfl, hz⟩ := hrel
    have HZ := Lib.hid hz
    clear hz
    by_cases hlt : i < n
    · obtain ⟨bl, off, rfl, hbl, hc⟩ := hI.cells (by omega)
      have hcell := hc i hlt
      have q1 : (i : Int) < n := by omega
      clear hc
      by_cases hx : xs[i]?.getD 0 = 0
      · have HXX := Lib.hid hx
        rw [hx] at hcell
        clear hx
        go_wp2
        go_round
        case rel => exact ⟨i + 1, by omega, by go_num, fun j hj => by
          rcases Nat.lt_or_eq_of_le (Nat.le_of_lt_succ hj) with h1 | h1
          · exact HZ.out j h1
          · exact h1 ▸ HXX.out⟩
        case measure => simp [intOf]; omega
      · have HV := Lib.hid (lead_at (by rw [HL.out]; exact hlt) HZ.out hx)
        generalize xs[i]?.getD 0 = x at *
        have q2 : (x != 0) = true := by simpa using hx
        have q3 : (x == 0) = false := by simpa using hx
        clear hx
        go_wp2
        go_ret
        exact ⟨ret1 (vint HV.out.symm), rfl⟩
    · obtain rfl : i = n := by omega
      have HV := Lib.hid (show leadI xs = 0 by rw [lead_skip i xs (by rw [HL.out]; exact Nat.le_refl _) HZ.out, List.drop_of_length_le (by rw [HL.out]; exact Nat.le_refl _)]; rfl)
      have hge : ¬ ((i : Int) < i) := by omega
      go_wp2
      go_ret
      exact ⟨ret1 (vint HV.out.symm), rfl⟩
end Go.Proofs.Ytbjkijifpikhkaa
