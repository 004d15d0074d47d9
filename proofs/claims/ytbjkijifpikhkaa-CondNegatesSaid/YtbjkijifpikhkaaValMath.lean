/-
  What the values of sums, multiples, substitutions and insertions are.
-/
import Derived.Test.YtbjkijifpikhkaaLinMix
import Derived.Test.YtbjkijifpikhkaaLinPut
import Derived.Test.YtbjkijifpikhkaaLinScaleRef
import Derived.Test.YtbjkijifpikhkaaLinPoint
import Derived.Test.YtbjkijifpikhkaaLinRoom
namespace Go.Proofs.Ytbjkijifpikhkaa
set_option linter.unusedVariables false

theorem mix_get {n : Nat} {a b : Int} {xs ys : List Int} {j : Nat} (hj : j < n) : (mixL n a xs b ys)[j]?.getD 0 = a * xs[j]?.getD 0 + b * ys[j]?.getD 0 := by
  unfold mixL; exact tab_get _ hj

theorem dot_mix {n : Nat} {a b : Int} {xs ys ps : List Int} : ∀ i, i ≤ n → dotSum (mixL n a xs b ys) ps i = a * dotSum xs ps i + b * dotSum ys ps i
  | 0, _ => by simp [dotSum]
  | i + 1, h => by
    simp only [dotSum]
    rw [dot_mix i (by omega), mix_get (show i < n by omega)]
    rw [Int.mul_add, Int.mul_add, Int.add_mul, Int.mul_assoc, Int.mul_assoc]
    omega

theorem dot_congr {xs ys ps qs : List Int} : ∀ i, (∀ j, j < i → xs[j]?.getD 0 * ps[j]?.getD 0 = ys[j]?.getD 0 * qs[j]?.getD 0) → dotSum xs ps i = dotSum ys qs i
  | 0, _ => rfl
  | i + 1, h => by
    simp only [dotSum]
    rw [dot_congr i (fun j hj => h j (by omega)), h i (by omega)]

/-- A coefficient struck out. -/
theorem dot_strike {xs ps : List Int} {j : Nat} : ∀ i, j < i → i ≤ xs.length → dotSum (xs.set j 0) ps i = dotSum xs ps i - xs[j]?.getD 0 * ps[j]?.getD 0
  | 0, h, _ => by omega
  | i + 1, h, hl => by
    simp only [dotSum]
    by_cases e : j = i
    · subst e
      have e1 : (xs.set j 0)[j]?.getD 0 = 0 := by simp [show j < xs.length by omega]
      have e2 : dotSum (xs.set j 0) ps j = dotSum xs ps j := dot_congr j fun m hm => by rw [List.getElem?_set_ne (by omega)]
      rw [e1, e2, Int.zero_mul]
      omega
    · rw [dot_strike i (by omega) (by omega), List.getElem?_set_ne e]
      omega

/-- A coordinate replaced. -/
theorem dot_point {xs ps : List Int} {j : Nat} (v : Int) : ∀ i, j < i → i ≤ ps.length → dotSum xs (ps.set j v) i = dotSum xs ps i - xs[j]?.getD 0 * ps[j]?.getD 0 + xs[j]?.getD 0 * v
  | 0, h, _ => by omega
  | i + 1, h, hl => by
    simp only [dotSum]
    by_cases e : j = i
    · subst e
      have e1 : (ps.set j v)[j]?.getD 0 = v := by simp [show j < ps.length by omega]
      have e2 : dotSum xs (ps.set j v) j = dotSum xs ps j := dot_congr j fun m hm => by rw [List.getElem?_set_ne (by omega)]
      rw [e1, e2]
      omega
    · rw [dot_point v i (by omega) (by omega), List.getElem?_set_ne e]
      omega

theorem put_mix {n i : Nat} {xs ys : List Int} (hl : xs.length = n) : mixL n 1 (xs.set i 0) (xs[i]?.getD 0) ys = putL n xs i ys := by
  apply List.map_congr_left
  intro j hj
  have hj := List.mem_range.1 hj
  rw [Int.one_mul]
  by_cases e : i = j
  · subst e
    simp [show i < xs.length by omega]
  · rw [List.getElem?_set_ne e, if_neg (fun e' => e e'.symm)]

/-- The value of what Put makes, at the point; at the point with the coordinate replaced, the value of the old expression. -/
theorem put_value {n i : Nat} {K L : Int} {xs ys ps : List Int} (hl : xs.length = n) (hp : ps.length = n) (hi : i < n) :
    (K + xs[i]?.getD 0 * L) + dotSum (putL n xs i ys) ps n = K + dotSum xs (ps.set i (L + dotSum ys ps n)) n := by
  rw [← put_mix hl, dot_mix n (Nat.le_refl _), dot_strike n hi (by omega), dot_point _ n hi (by omega), Int.mul_add]
  omega

/-- A place made: the value stays. -/
theorem dot_shift {xs ps X Y : List Int} {j : Nat} (hlow : ∀ m, m < j → X[m]?.getD 0 = xs[m]?.getD 0 ∧ Y[m]?.getD 0 = ps[m]?.getD 0) (h0 : X[j]?.getD 0 = 0) (hhigh : ∀ m, j ≤ m → X[m + 1]?.getD 0 = xs[m]?.getD 0 ∧ Y[m + 1]?.getD 0 = ps[m]?.getD 0) :
    ∀ t, dotSum X Y (j + t + 1) = dotSum xs ps (j + t)
  | 0 => by
    show dotSum X Y j + X[j]?.getD 0 * Y[j]?.getD 0 = _
    rw [h0, Int.zero_mul, Int.add_zero]
    exact dot_congr j fun m hm => by rw [(hlow m hm).1, (hlow m hm).2]
  | t + 1 => by
    show dotSum X Y (j + t + 1) + X[j + t + 1]?.getD 0 * Y[j + t + 1]?.getD 0 = dotSum xs ps (j + t) + xs[j + t]?.getD 0 * ps[j + t]?.getD 0
    rw [dot_shift hlow h0 hhigh t, (hhigh (j + t) (by omega)).1, (hhigh (j + t) (by omega)).2]

theorem ins_low {xs : List Int} {j m : Nat} {v : Int} (hj : j ≤ xs.length) (hm : m < j) : (xs.take j ++ [v] ++ xs.drop j)[m]?.getD 0 = xs[m]?.getD 0 := by
  rw [List.append_assoc, List.getElem?_append_left (by rw [List.length_take]; omega), List.getElem?_take, if_pos hm]
theorem ins_at {xs : List Int} {j : Nat} {v : Int} (hj : j ≤ xs.length) : (xs.take j ++ [v] ++ xs.drop j)[j]?.getD 0 = v := by
  have h : (xs.take j).length = j := by rw [List.length_take]; omega
  rw [List.append_assoc, List.getElem?_append_right (by omega), h]; simp
theorem ins_high {xs : List Int} {j m : Nat} {v : Int} (hj : j ≤ xs.length) (hm : j ≤ m) : (xs.take j ++ [v] ++ xs.drop j)[m + 1]?.getD 0 = xs[m]?.getD 0 := by
  have h : (xs.take j ++ [v]).length = j + 1 := by rw [List.length_append, List.length_take]; simp; omega
  rw [List.getElem?_append_right (by omega), h, List.getElem?_drop]
  congr 2
  omega

theorem room_value {n j : Nat} {xs ps : List Int} {v : Int} (hl : xs.length = n) (hp : ps.length = n) (hj : j ≤ n) :
    dotSum (roomL xs j 1) (ps.take j ++ [v] ++ ps.drop j) (n + 1) = dotSum xs ps n := by
  have hz : roomL xs j 1 = xs.take j ++ [0] ++ xs.drop j := rfl
  rw [hz]
  have := dot_shift (xs := xs) (ps := ps) (X := xs.take j ++ [0] ++ xs.drop j) (Y := ps.take j ++ [v] ++ ps.drop j) (j := j)
    (fun m hm => ⟨ins_low (by omega) hm, ins_low (by omega) hm⟩) (ins_at (by omega)) (fun m hm => ⟨ins_high (by omega) hm, ins_high (by omega) hm⟩) (n - j)
  rwa [show j + (n - j) = n by omega] at this

theorem room_back {n j : Nat} {xs : List Int} (hl : xs.length = n) (hj : j ≤ n) : (roomL xs j 1).eraseIdx j = xs := by
  have h : (xs.take j).length = j := by rw [List.length_take]; omega
  have hz : roomL xs j 1 = xs.take j ++ ([0] ++ xs.drop j) := by rw [← List.append_assoc]; rfl
  rw [hz, List.eraseIdx_append_of_length_le (by omega), h]
  simp

/-- The valid expressions are good at every point of valid coordinates. -/
theorem good_of {n : Nat} {X xs ps : List Int} {K : Int} (hv : validB X K = true) (hg : ∀ i, i < n → goodAt xs ps i) : ∀ i, i < n → goodAt X ps i := fun i hi => ⟨valid_at hv i, (hg i hi).2⟩

theorem room_valid {xs : List Int} {K : Int} {j : Nat} (hv : validB xs K = true) (h12 : xs.length + 1 ≤ 12) (hj : j ≤ xs.length) : validB (roomL xs j 1) K = true := by
  obtain ⟨h1, h2, h3⟩ := validB_true.1 hv
  refine validB_true.2 ⟨by rw [room_len rfl hj]; omega, h2, fun x hx => ?_⟩
  simp only [roomL, List.mem_append] at hx
  rcases hx with (hx | hx) | hx
  · exact h3 x (List.mem_of_mem_take hx)
  · have : x = 0 := by simpa [zeros] using hx
    subst this; decide
  · exact h3 x (List.mem_of_mem_drop hx)

theorem room_good {xs ps : List Int} {K : Int} {j n : Nat} (hv : validB (roomL xs j 1) K = true) (hl : xs.length = n) (hp : ps.length = n) (hj : j ≤ n) (hg : ∀ m, m < n → goodAt xs ps m) :
    ∀ m, m < n + 1 → goodAt (roomL xs j 1) (ps.take j ++ [7] ++ ps.drop j) m := fun m hm => by
  refine ⟨valid_at hv m, ?_⟩
  rcases Nat.lt_or_ge m j with h | h
  · rw [ins_low (by omega) h]; exact (hg m (by omega)).2
  · rcases Nat.lt_or_ge j m with h' | h'
    · obtain ⟨q, rfl⟩ : ∃ q, m = q + 1 := ⟨m - 1, by omega⟩
      rw [ins_high (by omega) (by omega)]
      exact (hg q (by omega)).2
    · obtain rfl : m = j := by omega
      rw [ins_at (by omega)]; omega

/-- The value of an expression at a point. -/
def valE (xs : List Int) (K : Int) (ps : List Int) : Int := K + dotSum xs ps xs.length
end Go.Proofs.Ytbjkijifpikhkaa
