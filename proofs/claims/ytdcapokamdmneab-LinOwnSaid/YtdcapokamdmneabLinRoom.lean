/-
  lin.Room, where the list is not nil.
-/
import Derived.Test.YtdcapokamdmneabProg
import Derived.Test.YtdcapokamdmneabLinKit
import Derived.Test.YtdcapokamdmneabLinTerms
import Derived.Test.YtdcapokamdmneabLinAt
import Derived.Test.YtdcapokamdmneabLinClone
import Derived.Test.YtdcapokamdmneabLinPut
import Derived.Test.YtdcapokamdmneabLinMake
import Derived.Test.YtdcapokamdmneabLinConcat
import Derived.Test.YtdcapokamdmneabLinSum
import Derived.Test.YtdcapokamdmneabLinCut
import Derived.Deep.RegionHeld3
namespace Go.Proofs.Ytdcapokamdmneab
open Go.RowKit
set_option linter.unusedVariables false
set_option linter.unusedSimpArgs false

/-- As RetF, and the capacity is no less than the length. -/
def RetC (w : World) (e : Ending) (w' : World) (ys : List Int) (K err : Int) : Prop :=
  ∃ A n c, e = .returned (.tuple #[.agg #[.slice A n c, .int .i64 K], .int .i64 err]) ∧ IntsAt w' A n ys ∧ Below w.heap.size w w' ∧ (n = 0 ∨ ∃ g, A = some ⟨g, 0, none⟩ ∧ w.heap.size ≤ g ∧ OwnRow w' g n ys) ∧ n ≤ c ∧ c ≤ 9223372036854775807
theorem RetC.f {w : World} {e : Ending} {w' : World} {ys : List Int} {K err : Int} (h : RetC w e w' ys K err) : RetF w e w' ys K err := by
  obtain ⟨A, n, c, h1, h2, h3, h4, _⟩ := h
  exact ⟨A, n, c, h1, h2, h3, h4.imp id fun ⟨g, a, b, _⟩ => ⟨g, a, b⟩⟩
theorem RetC.o {w : World} {e : Ending} {w' : World} {ys : List Int} {K err : Int} (h : RetC w e w' ys K err) : RetO w e w' ys K err := by
  obtain ⟨A, n, c, h1, h2, h3, h4, _⟩ := h
  exact ⟨A, n, c, h1, h2, h3, h4⟩
theorem RetC.lin {w : World} {e : Ending} {w' : World} {ys : List Int} {K err : Int} (h : RetC w e w' ys K err) : LinRet w e w' ys K err := h.f.lin
theorem ret_c {A : Option Addr} {n c : Nat} {K err : Int} {w w' : World} {ys : List Int} {K' err' : Int} (hc : n ≤ c ∧ c ≤ 9223372036854775807) (h1 : err' = err) (h2 : K' = K) (hI : IntsAt w' A n ys) (hb : Below w.heap.size w w') (hf : n = 0 ∨ ∃ g, A = some ⟨g, 0, none⟩ ∧ w.heap.size ≤ g ∧ OwnRow w' g n ys) :
    RetC w (.returned (.tuple #[.agg #[.slice A n c, .int .i64 K], .int .i64 err])) w' ys K' err' := by
  subst h1; subst h2; exact ⟨A, n, c, rfl, hI, hb, hf, hc⟩

/-- The three parts that Room joins; g: the block of the new zeros. -/
def roomP (b off n c i k g : Nat) (xs : List Int) (j : Nat) : Part :=
  if j = 0 then ⟨some ⟨b, off, none⟩, i, c, xs.take i⟩ else if j = 1 then ⟨some ⟨g, 0, none⟩, k, k, zeros k⟩ else ⟨(if c = i then some ⟨b, off, none⟩ else some ⟨b, off + i, none⟩), n - i, c - i, xs.drop i⟩

theorem room_parts {w : World} {b off n c i k : Nat} {xs : List Int} (hl : xs.length = n) (hs : n ≤ 17592186044416) (hw : ∀ x ∈ xs, -9223372036854775808 ≤ x ∧ x ≤ 9223372036854775807) (hb : b < w.heap.size)
    (hc : ∀ j, j < n → w.cell? ⟨b, off + j, none⟩ = some (.int .i64 (xs[j]?.getD 0))) (hi : i ≤ n) (hnc : n ≤ c) (hk : k ≤ 12) :
    PartsAt ((w.alloc (.cells ((zeros k).map (Value.int .i64)).toArray 3)).alloc (.cells #[.slice (some ⟨b, off, none⟩) i c, .slice (some ⟨w.heap.size, 0, none⟩) k k, .slice (if c = i then some ⟨b, off, none⟩ else some ⟨b, off + i, none⟩) (n - i) (c - i)] 22)).drew (w.heap.size + 1) 0 3 (roomP b off n c i k w.heap.size xs) := by
  obtain ⟨o, ho⟩ : ∃ o, o = (Obj.cells #[.slice (some ⟨b, off, none⟩) i c, .slice (some ⟨w.heap.size, 0, none⟩) k k, .slice (if c = i then some ⟨b, off, none⟩ else some ⟨b, off + i, none⟩) (n - i) (c - i)] 22) := ⟨_, rfl⟩
  have h2 : Below (w.alloc (.cells ((zeros k).map (Value.int .i64)).toArray 3)).heap.size (w.alloc (.cells ((zeros k).map (Value.int .i64)).toArray 3)) ((w.alloc (.cells ((zeros k).map (Value.int .i64)).toArray 3)).alloc o).drew := (below_alloc _ o).drew
  have hst := below_step (below_alloc w (.cells ((zeros k).map (Value.int .i64)).toArray 3)) h2
  intro j hj
  rcases (show j = 0 ∨ j = 1 ∨ j = 2 by omega) with rfl | rfl | rfl
  · refine ⟨?_, ?_, fun h => by simp [roomP] at h⟩
    · rw [World.cell?_drew, World.cell?_alloc_at _ _ _ _ (by simp)]; rfl
    · rw [← ho]
      have h := ints_sub (d := 0) (k := i) hl hs hw hb hc (by omega)
      exact IntsAt.step (by simpa [roomP] using h) hst
  · refine ⟨?_, ?_, fun h => by simp [roomP] at h⟩
    · rw [World.cell?_drew, World.cell?_alloc_at _ _ _ _ (by simp)]; rfl
    · rw [← ho]
      exact IntsAt.step (new_ints w (zeros k) k (zeros_len k) (by omega) (zeros_wf k) w.heap.size rfl) h2
  · refine ⟨?_, ?_, fun h => by
      have h' : (if c = i then some (⟨b, off, none⟩ : Addr) else some ⟨b, off + i, none⟩) = none := h
      split at h' <;> cases h'⟩
    · rw [World.cell?_drew, World.cell?_alloc_at _ _ _ _ (by simp)]; rfl
    · rw [← ho]
      refine IntsAt.step ?_ hst
      show IntsAt w (if c = i then some ⟨b, off, none⟩ else some ⟨b, off + i, none⟩) (n - i) (xs.drop i)
      have h := ints_sub (d := i) (k := n - i) hl hs hw hb hc (by omega)
      have e : (xs.drop i).take (n - i) = xs.drop i := List.take_of_length_le (by simp [hl])
      rw [e] at h
      by_cases h1 : c = i
      · have h0 : n - i = 0 := by omega
        rw [h0] at h ⊢
        exact ⟨h.len, h.small, h.wf, fun hn => absurd hn (by omega)⟩
      · rw [if_neg h1]; exact h

def roomL (xs : List Int) (i k : Nat) : List Int := xs.take i ++ zeros k ++ xs.drop i
theorem room_tot {b off n c i k g : Nat} {xs : List Int} (hi : i ≤ n) : tot (roomP b off n c i k g xs) 3 = n + k := by simp [tot, roomP]; omega
theorem room_cat {b off n c i k g : Nat} {xs : List Int} : cat (roomP b off n c i k g xs) 3 = roomL xs i k := by simp [cat, roomP, roomL]
theorem room_len {n i k : Nat} {xs : List Int} (hl : xs.length = n) (hi : i ≤ n) : (roomL xs i k).length = n + k := by simp [roomL, hl, zeros_len]; omega
theorem room_wf {i k : Nat} {xs : List Int} (hw : ∀ x ∈ xs, -9223372036854775808 ≤ x ∧ x ≤ 9223372036854775807) : ∀ x ∈ roomL xs i k, -9223372036854775808 ≤ x ∧ x ≤ 9223372036854775807 := by
  intro x hx
  simp only [roomL, List.mem_append] at hx
  rcases hx with (hx | hx) | hx
  · exact hw x (List.mem_of_mem_take hx)
  · exact zeros_wf k x hx
  · exact hw x (List.mem_of_mem_drop hx)

set_option maxHeartbeats 2000000 in
theorem lin_room_ok (b off n c : Nat) (K : Int) (xs : List Int) (i k : Nat) (w : World) (hI : IntsAt w (some ⟨b, off, none⟩) n xs) (hbl : b < w.heap.size) (hcs : ∀ j, j < n → w.cell? ⟨b, off + j, none⟩ = some (.int .i64 (xs[j]?.getD 0))) (hnc : n ≤ c) (hc63 : c ≤ 9223372036854775807)
    (hv : validB xs K = true) (hi : i ≤ n) (hk : n + k ≤ 12) :
    Calls Try.prog 11 #[.agg #[.slice (some ⟨b, off, none⟩) n c, .int .i64 K], .int .i64 i, .int .i64 k] w fun e w' => RetC w e w' (roomL xs i k) K 0 := by
  have hsm := hI.small
  have hmk := make_ints k (by omega)
  have B1 := (LBox.new w (some ⟨b, off, none⟩) n c K).alloc (.cells #[.slice none 0 0, .int .i64 0] 24)
  have B2 := LBox.new (w.alloc (.cells #[.slice (some ⟨b, off, none⟩) n c, .int .i64 K] 24)) none 0 0 0
  have hB := below_step (below_alloc w (.cells #[.slice (some ⟨b, off, none⟩) n c, .int .i64 K] 24)) (below_alloc _ (.cells #[.slice none 0 0, .int .i64 0] 24))
  have h1 := hI.step hB
  rw [World.size_alloc] at B2
  have HC := Lib.hid hcs
  have hi1 : (i : Int) ≤ n := by omega
  have hi2 : (i : Int) ≤ c := by omega
  have hk1 : (k : Int) ≤ 12 - (n : Int) := by omega
  clear hcs hI
  go_enter Try.func11, Try.ntmps11
  go_wp2_with (go_at_call 30; refine (lin_valid _ _ _ _ xs _ h1).mono ?_; rintro e w1 ⟨rfl, hb⟩; replace h1 := h1.step hb; replace B1 := B1.step hb; replace B2 := B2.step hb; have c10 := B1.c0; have c11 := B1.c1; replace hB := below_step hB hb)
  have l2 := B2.lt
  have HA := Lib.hid (fun j (hj : j < n) => (hB.cell (p := ⟨b, off + j, none⟩) hbl).trans (HC.out j hj))
  have l0 : w.heap.size < w1.heap.size := by omega
  have n0 : w.heap.size + 1 ≠ w.heap.size := by omega
  have hbl1 : b < w1.heap.size := by omega
  obtain ⟨Q, hQ⟩ : ∃ Q, (if c = i then some (⟨b, off, none⟩ : Addr) else some ⟨b, off + i, none⟩) = Q := ⟨_, rfl⟩
  have ct := ((concat_in (w1.heap.size + 1) 0 3 3 (roomP b off n c i k w1.heap.size xs) _ (room_parts h1.len hsm h1.wf hbl1 HA.out hi hnc (by omega)) (by simp) (by omega) (by rw [room_tot hi]; omega)).mono
    (R' := fun e w2 => ∃ A5 c5, e = .returned (.slice A5 (n + k) c5) ∧ IntsAt w2 A5 (n + k) (roomL xs i k) ∧ Below w1.heap.size w1 w2 ∧ (n + k = 0 ∨ ∃ g, A5 = some ⟨g, 0, none⟩ ∧ w1.heap.size ≤ g ∧ OwnRow w2 g (n + k) (roomL xs i k)) ∧ n + k ≤ c5 ∧ c5 ≤ 9223372036854775807) (by
      rintro e w2 ⟨v, rfl, hv2, hb2⟩
      rw [room_tot hi, room_cat] at hv2
      have hb3 : Below w1.heap.size w1 w2 := ((below_alloc w1 (.cells ((zeros k).map (Value.int .i64)).toArray 3)).alloc (by simp) _).drew.trans (hb2.mono (show w1.heap.size ≤ ((w1.alloc _).alloc _).heap.size by simp; omega))
      rcases hv2 with ⟨rfl, h0⟩ | ⟨g, cap, rfl, hg, hr, hcap⟩
      · refine ⟨none, 0, by rw [h0], ?_, hb3, .inl h0, by omega, by omega⟩
        have h9 : (roomL xs i k).length = n + k := room_len h1.len hi
        rw [h0] at h9 ⊢
        rw [List.eq_nil_of_length_eq_zero h9]
        exact ints_nil _ _
      · refine ⟨some ⟨g, 0, none⟩, cap, rfl, hr.ints (by omega) (room_wf h1.wf), hb3, .inr ⟨g, rfl, ?_, hr⟩, hcap⟩
        have : ((w1.alloc _).alloc _).heap.size ≤ g := hg
        simp at this
        omega))
  rw [hQ] at ct
  have CT := Lib.hid ct
  clear ct
  have s6 : (n : Int) ≤ c := by omega
  go_region_held3 (fun W => W.cell? ⟨w.heap.size, 0, none⟩ = some (.slice (some ⟨b, off, none⟩) n c) ∧ W.cell? ⟨w.heap.size, 1, none⟩ = some (.int .i64 K)) (go_keep)
    (first | (go_at_call 31; refine CT.out.mono ?_; rintro e w2 ⟨A5, c5, rfl, I5, hb2', hf5, hcap⟩; have k0 := (hb2'.cell (p := ⟨w.heap.size, 0, none⟩) l0).trans c10; have k1 := (hb2'.cell (p := ⟨w.heap.size, 1, none⟩) l0).trans c11; have B4 := B2.step hb2'; have c40 := B4.c0; have c41 := B4.c1; have f40 := B4.f 0; have f41 := B4.f 1))
  have c50 := B4.s0 (.slice A5 (n + k) c5)
  have c51 := (B4.store A5 (n + k) c5 K).c1
  have hf6 : n + k = 0 ∨ ∃ g, A5 = some ⟨g, 0, none⟩ ∧ w.heap.size + 1 < g ∧ OwnRow w2 g (n + k) (roomL xs i k) := hf5.imp id (fun ⟨g, h, h', ho⟩ => ⟨g, h, by omega, ho⟩)
  have hEnd := below_step hB hb2'
  clear k0 k1 c10 c11 n0 hQ
  go_wp2
  refine bodyPost_ret (v := .tuple #[.agg #[.slice A5 (n + k) c5, .int .i64 K], .int .i64 0]) (by simp [results, Try.results11, go_sem, c50, c51]) rfl ?_
  exact ret_c hcap rfl rfl (ints_far I5 (hf6.imp id (fun ⟨g, h, h', _⟩ => ⟨g, h, by omega⟩)) _ _) (below_store2 hEnd (by omega) _ _) (hf6.imp id (fun ⟨g, h, h', ho⟩ => ⟨g, h, by omega, ho.store2 (by omega) _ _⟩))
end Go.Proofs.Ytdcapokamdmneab
