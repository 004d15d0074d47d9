/-
  lin.Room of a nil list.
-/
import Derived.Test.YtdcapokamdmneabProg
import Derived.Test.YtdcapokamdmneabLinRoom
namespace Go.Proofs.Ytdcapokamdmneab
open Go.RowKit
set_option linter.unusedVariables false
set_option linter.unusedSimpArgs false

/-- The three parts that Room joins, where the list is nil; g: the block of the new zeros. -/
def roomP0 (k g : Nat) (j : Nat) : Part := if j = 1 then ⟨some ⟨g, 0, none⟩, k, k, zeros k⟩ else ⟨none, 0, 0, []⟩

theorem room_parts0 {w : World} {k : Nat} (hk : k ≤ 12) :
    PartsAt ((w.alloc (.cells ((zeros k).map (Value.int .i64)).toArray 3)).alloc (.cells #[.slice none 0 0, .slice (some ⟨w.heap.size, 0, none⟩) k k, .slice none 0 0] 22)).drew (w.heap.size + 1) 0 3 (roomP0 k w.heap.size) := by
  obtain ⟨o, ho⟩ : ∃ o, o = (Obj.cells #[.slice none 0 0, .slice (some ⟨w.heap.size, 0, none⟩) k k, .slice none 0 0] 22) := ⟨_, rfl⟩
  have h2 : Below (w.alloc (.cells ((zeros k).map (Value.int .i64)).toArray 3)).heap.size (w.alloc (.cells ((zeros k).map (Value.int .i64)).toArray 3)) ((w.alloc (.cells ((zeros k).map (Value.int .i64)).toArray 3)).alloc o).drew := (below_alloc _ o).drew
  intro j hj
  rcases (show j = 0 ∨ j = 1 ∨ j = 2 by omega) with rfl | rfl | rfl
  · refine ⟨?_, ints_nil _ _, fun _ => ⟨rfl, rfl⟩⟩
    rw [World.cell?_drew, World.cell?_alloc_at _ _ _ _ (by simp)]; rfl
  · refine ⟨?_, ?_, fun h => by simp [roomP0] at h⟩
    · rw [World.cell?_drew, World.cell?_alloc_at _ _ _ _ (by simp)]; rfl
    · rw [← ho]
      exact IntsAt.step (new_ints w (zeros k) k (zeros_len k) (by omega) (zeros_wf k) w.heap.size rfl) h2
  · refine ⟨?_, ints_nil _ _, fun _ => ⟨rfl, rfl⟩⟩
    rw [World.cell?_drew, World.cell?_alloc_at _ _ _ _ (by simp)]; rfl

theorem room_tot0 {k g : Nat} : tot (roomP0 k g) 3 = k := by simp [tot, roomP0]
theorem room_cat0 {k g : Nat} : cat (roomP0 k g) 3 = roomL [] 0 k := by simp [cat, roomP0, roomL]

set_option maxHeartbeats 2000000 in
theorem lin_room_nil (K : Int) (k : Nat) (w : World) (hv : validB [] K = true) (hk : k ≤ 12) :
    Calls Try.prog 11 #[.agg #[.slice none 0 0, .int .i64 K], .int .i64 0, .int .i64 k] w fun e w' => RetC w e w' (roomL [] 0 k) K 0 := by
  have hI : IntsAt w none 0 [] := ints_nil _ _
  have hsm := hI.small
  have hmk := make_ints k (by omega)
  have B1 := (LBox.new w none 0 0 K).alloc (.cells #[.slice none 0 0, .int .i64 0] 24)
  have B2 := LBox.new (w.alloc (.cells #[.slice none 0 0, .int .i64 K] 24)) none 0 0 0
  have hB := below_step (below_alloc w (.cells #[.slice none 0 0, .int .i64 K] 24)) (below_alloc _ (.cells #[.slice none 0 0, .int .i64 0] 24))
  have h1 := hI.step hB
  rw [World.size_alloc] at B2
  have hk1 : (k : Int) ≤ 12 := by omega
  clear hI
  go_enter Try.func11, Try.ntmps11
  go_wp2_with (go_at_call 30; refine (lin_valid _ _ _ _ [] _ h1).mono ?_; rintro e w1 ⟨rfl, hb⟩; replace h1 := h1.step hb; replace B1 := B1.step hb; replace B2 := B2.step hb; have c10 := B1.c0; have c11 := B1.c1; replace hB := below_step hB hb)
  have l2 := B2.lt
  have l0 : w.heap.size < w1.heap.size := by omega
  have n0 : w.heap.size + 1 ≠ w.heap.size := by omega
  have ct := ((concat_in (w1.heap.size + 1) 0 3 3 (roomP0 k w1.heap.size) _ (room_parts0 (by omega)) (by simp) (by omega) (by rw [room_tot0]; omega)).mono
    (R' := fun e w2 => ∃ A5 c5, e = .returned (.slice A5 k c5) ∧ IntsAt w2 A5 k (roomL [] 0 k) ∧ Below w1.heap.size w1 w2 ∧ (k = 0 ∨ ∃ g, A5 = some ⟨g, 0, none⟩ ∧ w1.heap.size ≤ g ∧ OwnRow w2 g k (roomL [] 0 k)) ∧ k ≤ c5 ∧ c5 ≤ 9223372036854775807) (by
      rintro e w2 ⟨v, rfl, hv2, hb2⟩
      rw [room_tot0, room_cat0] at hv2
      have hb3 : Below w1.heap.size w1 w2 := ((below_alloc w1 (.cells ((zeros k).map (Value.int .i64)).toArray 3)).alloc (by simp) _).drew.trans (hb2.mono (show w1.heap.size ≤ ((w1.alloc _).alloc _).heap.size by simp; omega))
      rcases hv2 with ⟨rfl, h0⟩ | ⟨g, cap, rfl, hg, hr, hcap⟩
      · subst h0
        exact ⟨none, 0, rfl, ints_nil _ _, hb3, .inl rfl, by omega, by omega⟩
      · refine ⟨some ⟨g, 0, none⟩, cap, rfl, hr.ints (by omega) (room_wf h1.wf), hb3, .inr ⟨g, rfl, ?_, hr⟩, hcap⟩
        have : ((w1.alloc _).alloc _).heap.size ≤ g := hg
        simp at this
        omega))
  have CT := Lib.hid ct
  clear ct
  go_region_held3 (fun W => W.cell? ⟨w.heap.size, 0, none⟩ = some (.slice none 0 0) ∧ W.cell? ⟨w.heap.size, 1, none⟩ = some (.int .i64 K)) (go_keep)
    (first | (go_at_call 31; refine CT.out.mono ?_; rintro e w2 ⟨A5, c5, rfl, I5, hb2', hf5, hcap⟩; have k0 := (hb2'.cell (p := ⟨w.heap.size, 0, none⟩) l0).trans c10; have k1 := (hb2'.cell (p := ⟨w.heap.size, 1, none⟩) l0).trans c11; have B4 := B2.step hb2'; have c40 := B4.c0; have c41 := B4.c1; have f40 := B4.f 0; have f41 := B4.f 1))
  have c50 := B4.s0 (.slice A5 k c5)
  have c51 := (B4.store A5 k c5 K).c1
  have hf6 : k = 0 ∨ ∃ g, A5 = some ⟨g, 0, none⟩ ∧ w.heap.size + 1 < g ∧ OwnRow w2 g k (roomL [] 0 k) := hf5.imp id (fun ⟨g, h, h', ho⟩ => ⟨g, h, by omega, ho⟩)
  have hEnd := below_step hB hb2'
  clear k0 k1 c10 c11 n0
  go_wp2
  refine bodyPost_ret (v := .tuple #[.agg #[.slice A5 k c5, .int .i64 K], .int .i64 0]) (by simp [results, Try.results11, go_sem, c50, c51]) rfl ?_
  exact ret_c hcap rfl rfl (ints_far I5 (hf6.imp id (fun ⟨g, h, h', _⟩ => ⟨g, h, by omega⟩)) _ _) (below_store2 hEnd (by omega) _ _) (hf6.imp id (fun ⟨g, h, h', ho⟩ => ⟨g, h, by omega, ho.store2 (by omega) _ _⟩))
end Go.Proofs.Ytdcapokamdmneab
