/- Base 32 read back: numbers. -/
import Derived.Test.YtffghlbgbfhfdaaGreatDoorTxM
namespace Go.Proofs.YtffghlbgbfhfdaaGreatDoor
/-- The number whose lowest byte is the first. -/
def num : List Nat → Nat
  | [] => 0
  | x :: r => x + 256 * num r
theorem num_lt : ∀ l : List Nat, (∀ x ∈ l, x < 256) → num l < 256 ^ l.length
  | [], _ => by simp [num]
  | x :: r, h => by
    have h1 := h x (by simp)
    have h2 := num_lt r (fun y hy => h y (by simp [hy]))
    rw [num, List.length_cons, Nat.pow_succ]
    omega
theorem num_div : ∀ (l : List Nat) (j : Nat), (∀ x ∈ l, x < 256) → num l / 256 ^ j = num (l.drop j)
  | l, 0, _ => by simp
  | [], j + 1, _ => by simp [num]
  | x :: r, j + 1, h => by
    have h1 := h x (by simp)
    have h2 := num_div r j (fun y hy => h y (by simp [hy]))
    rw [List.drop_succ_cons, ← h2, num, Nat.pow_succ, Nat.mul_comm (256 ^ j) 256, ← Nat.div_div_eq_div_mul]
    congr 1
    omega
theorem num_drop2 (l : List Nat) (j : Nat) : ∃ r, num (l.drop j) = l.getD j 0 + 256 * (l.getD (j + 1) 0 + 256 * r) := by
  by_cases h1 : j < l.length
  · rw [List.drop_eq_getElem_cons h1]
    by_cases h2 : j + 1 < l.length
    · rw [List.drop_eq_getElem_cons h2]
      refine ⟨num (l.drop (j + 1 + 1)), ?_⟩
      simp [num, List.getD, h1, h2]
    · refine ⟨0, ?_⟩
      have : l.drop (j + 1) = [] := List.drop_eq_nil_of_le (by omega)
      rw [this]
      simp [num, List.getD, h1, h2]
  · refine ⟨0, ?_⟩
    have : l.drop j = [] := List.drop_eq_nil_of_le (by omega)
    rw [this]
    have h2 : ¬ j + 1 < l.length := by omega
    simp [num, List.getD, h1, h2]
theorem pow32 (k : Nat) : 32 ^ k = 256 ^ (5 * k / 8) * 2 ^ (5 * k % 8) := by
  have h1 : (32 : Nat) ^ k = 2 ^ (5 * k) := by rw [show (32 : Nat) = 2 ^ 5 by decide, ← Nat.pow_mul]
  have h2 : (256 : Nat) ^ (5 * k / 8) = 2 ^ (8 * (5 * k / 8)) := by rw [show (256 : Nat) = 2 ^ 8 by decide, ← Nat.pow_mul]
  rw [h1, h2, ← Nat.pow_add]
  congr 1
  omega
theorem d32_mod (a b r s : Nat) (hs : s < 8) : (a + 256 * (b + 256 * r)) / 2 ^ s % 32 = d32 a b s := by
  unfold d32
  have : s = 0 ∨ s = 1 ∨ s = 2 ∨ s = 3 ∨ s = 4 ∨ s = 5 ∨ s = 6 ∨ s = 7 := by omega
  rcases this with rfl | rfl | rfl | rfl | rfl | rfl | rfl | rfl <;> simp <;> omega
/-- A digit of the number. -/
theorem v32_num (l : List Nat) (hb : ∀ x ∈ l, x < 256) (i : Nat) : v32 l i = num l / 32 ^ i % 32 := by
  rw [pow32, ← Nat.div_div_eq_div_mul, num_div l _ hb]
  obtain ⟨r, hr⟩ := num_drop2 l (5 * i / 8)
  rw [hr, d32_mod _ _ _ _ (Nat.mod_lt _ (by decide))]
  rfl
/-- Digits as a number. -/
def dsum (f : Nat → Nat) : Nat → Nat
  | 0 => 0
  | k + 1 => dsum f k + f k * 32 ^ k
theorem dsum_lt (f : Nat → Nat) (n : Nat) (hf : ∀ i, i < n → f i < 32) : ∀ k, k ≤ n → dsum f k < 32 ^ k
  | 0, _ => by simp [dsum]
  | k + 1, hk => by
    have h1 := dsum_lt f n hf k (by omega)
    have h2 := hf k (by omega)
    have h3 : f k * 32 ^ k ≤ 31 * 32 ^ k := Nat.mul_le_mul_right _ (by omega)
    rw [dsum, Nat.pow_succ]
    omega
theorem dsum_mod (N : Nat) (f : Nat → Nat) (n : Nat) (hf : ∀ i, i < n → f i = N / 32 ^ i % 32) : ∀ k, k ≤ n → dsum f k = N % 32 ^ k
  | 0, _ => by simp [dsum, Nat.mod_one]
  | k + 1, hk => by
    rw [dsum, dsum_mod N f n hf k (by omega), hf k (by omega), Nat.pow_succ, Nat.mod_mul, Nat.mul_comm]
/-- A number's bytes. -/
def byts (N n : Nat) : List Nat := (List.range n).map fun j => N / 256 ^ j % 256
theorem byts_len (N n : Nat) : (byts N n).length = n := by simp [byts]
theorem byts_get (N n j : Nat) (h : j < n) : (byts N n).getD j 0 = N / 256 ^ j % 256 := by simp [byts, List.getD, h]
theorem byts_num (l : List Nat) (hb : ∀ x ∈ l, x < 256) : byts (num l) l.length = l := by
  apply List.ext_getElem
  · simp [byts]
  · intro j h1 h2
    simp only [byts, List.getElem_map, List.getElem_range]
    rw [num_div l j hb, List.drop_eq_getElem_cons h2]
    have := hb _ (List.getElem_mem h2)
    simp only [num]
    omega
theorem byts_zero (n : Nat) : byts 0 n = List.replicate n 0 := by
  apply List.ext_getElem
  · simp [byts]
  · intro j h1 h2; simp [byts]
/-- The byte in which a digit begins, behind it. -/
theorem at_low (N v k : Nat) : (N + v * 32 ^ k) / 256 ^ (5 * k / 8) = N / 256 ^ (5 * k / 8) + v * 2 ^ (5 * k % 8) := by
  rw [pow32 k, Nat.mul_comm (256 ^ _) (2 ^ _), ← Nat.mul_assoc, Nat.add_mul_div_right _ _ (Nat.pow_pos (by decide))]
theorem low_lt (N k : Nat) (hN : N < 32 ^ k) : N / 256 ^ (5 * k / 8) < 2 ^ (5 * k % 8) := by
  rw [pow32 k] at hN
  rw [Nat.div_lt_iff_lt_mul (Nat.pow_pos (by decide)), Nat.mul_comm]
  exact hN
theorem byts_step_lo (N v k j : Nat) (hj : j < 5 * k / 8) : (N + v * 32 ^ k) / 256 ^ j % 256 = N / 256 ^ j % 256 := by
  have h1 : 32 ^ k = 256 ^ j * (256 * (256 ^ (5 * k / 8 - j - 1) * 2 ^ (5 * k % 8))) := by
    rw [pow32 k]
    have : (256 : Nat) ^ (5 * k / 8) = 256 ^ j * (256 * 256 ^ (5 * k / 8 - j - 1)) := by
      rw [← Nat.pow_succ', ← Nat.pow_add]
      congr 1
      omega
    rw [this, Nat.mul_assoc, Nat.mul_assoc]
  rw [h1, show v * (256 ^ j * (256 * (256 ^ (5 * k / 8 - j - 1) * 2 ^ (5 * k % 8)))) = (v * (256 ^ (5 * k / 8 - j - 1) * 2 ^ (5 * k % 8)) * 256) * 256 ^ j by
    simp only [Nat.mul_comm, Nat.mul_left_comm], Nat.add_mul_div_right _ _ (Nat.pow_pos (by decide)), Nat.add_mul_mod_self_right]
theorem byts_step_at (N v k : Nat) (hN : N < 32 ^ k) : (N + v * 32 ^ k) / 256 ^ (5 * k / 8) % 256 = (N / 256 ^ (5 * k / 8) % 256) ||| (v * 2 ^ (5 * k % 8) % 256) := by
  rw [at_low N v k]
  have h1 := low_lt N k hN
  generalize N / 256 ^ (5 * k / 8) = a at *
  have hs : 5 * k % 8 < 8 := Nat.mod_lt _ (by decide)
  generalize 5 * k % 8 = s at *
  have h256 : 2 ^ s ≤ 2 ^ 7 := Nat.pow_le_pow_right (by decide) (by omega)
  have ha : a % 256 = a := Nat.mod_eq_of_lt (by omega)
  have h2 : v * 2 ^ s % 256 = 2 ^ s * (v % 2 ^ (8 - s)) := by
    have : (256 : Nat) = 2 ^ (8 - s) * 2 ^ s := by rw [← Nat.pow_add, show 8 - s + s = 8 by omega]
    rw [this, Nat.mul_mod_mul_right, Nat.mul_comm]
  rw [ha, Nat.or_comm, h2, ← Nat.two_pow_add_eq_or_of_lt h1, ← h2]
  have h3 : v * 2 ^ s % 256 + a < 256 := by
    rw [h2]
    have h4 : v % 2 ^ (8 - s) < 2 ^ (8 - s) := Nat.mod_lt _ (Nat.pow_pos (by decide))
    have h5 : 2 ^ s * (v % 2 ^ (8 - s)) + 2 ^ s ≤ 2 ^ s * 2 ^ (8 - s) := by
      rw [← Nat.mul_succ]; exact Nat.mul_le_mul_left _ h4
    have h6 : 2 ^ s * 2 ^ (8 - s) = 256 := by rw [← Nat.pow_add, show s + (8 - s) = 8 by omega]
    omega
  omega
theorem byts_step_next (N v k : Nat) (hN : N < 32 ^ k) (hv : v < 32) : (N + v * 32 ^ k) / 256 ^ (5 * k / 8 + 1) % 256 = v / 2 ^ (8 - 5 * k % 8) ∧ N / 256 ^ (5 * k / 8 + 1) = 0 := by
  have h1 := low_lt N k hN
  have hs : 5 * k % 8 < 8 := Nat.mod_lt _ (by decide)
  rw [Nat.pow_succ, ← Nat.div_div_eq_div_mul, ← Nat.div_div_eq_div_mul, at_low N v k]
  generalize N / 256 ^ (5 * k / 8) = a at *
  generalize 5 * k % 8 = s at *
  have : s = 0 ∨ s = 1 ∨ s = 2 ∨ s = 3 ∨ s = 4 ∨ s = 5 ∨ s = 6 ∨ s = 7 := by omega
  rcases this with rfl | rfl | rfl | rfl | rfl | rfl | rfl | rfl <;> simp at h1 ⊢ <;> omega
theorem byts_step_hi (N v k j : Nat) (hN : N < 32 ^ k) (hv : v < 32) (hj : 5 * k / 8 + 1 < j) : (N + v * 32 ^ k) / 256 ^ j % 256 = N / 256 ^ j % 256 := by
  have h0 : N + v * 32 ^ k < 256 ^ (5 * k / 8 + 2) := by
    have h1 : v * 32 ^ k ≤ 31 * 32 ^ k := Nat.mul_le_mul_right _ (by omega)
    have h2 : 32 * 32 ^ k ≤ 256 ^ (5 * k / 8 + 2) := by
      have h3 : (32 : Nat) * 32 ^ k = 2 ^ (5 * k + 5) := by rw [show (32 : Nat) = 2 ^ 5 by decide, ← Nat.pow_mul, ← Nat.pow_add]; congr 1; omega
      have h4 : (256 : Nat) ^ (5 * k / 8 + 2) = 2 ^ (8 * (5 * k / 8 + 2)) := by rw [show (256 : Nat) = 2 ^ 8 by decide, ← Nat.pow_mul]
      rw [h3, h4]
      exact Nat.pow_le_pow_right (by decide) (by omega)
    omega
  have h5 : (256 : Nat) ^ (5 * k / 8 + 2) ≤ 256 ^ j := Nat.pow_le_pow_right (by decide) (by omega)
  rw [Nat.div_eq_of_lt (by omega), Nat.div_eq_of_lt (by omega)]
end Go.Proofs.YtffghlbgbfhfdaaGreatDoor
