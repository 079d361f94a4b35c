/- Several texts in one: HxN, HxM, HxU, HxR, HxS, HxH. -/
import Derived.Test.YtffghlbgbfhfdaaGreatDoorTxM
import Derived.Test.YtffghlbgbfhfdaaGreatDoorSl
import Derived.Laws.CopyOwn
import Derived.BigRegion
import Derived.Test.YtffghlbgbfhfdaaGreatDoorBytes
import Derived.RegionTactic
import Derived.WalkKit
/- Base 32 read back: numbers. -/
namespace Go.Proofs.YtffghlbgbfhfdaaGreatDoor.Hx
/-- The number whose lowest byte is the first. -/
def num : List Nat → Nat
  | [] => 0
  | x :: r => x + 256 * num r
theorem num_lt : ∀ l : List Nat, (∀ x ∈ l, x < 256) → num l < 256 ^ l.length
  | [], _ => by simp [num]
  | x :: r, h => by
    have h1 := h x (by simp)
    have h2 := num_lt r (fun y hy => h y (by simp [hy]))
    rw [num, List.length_cons, Nat.pow_succ]
    omega
theorem num_div : ∀ (l : List Nat) (j : Nat), (∀ x ∈ l, x < 256) → num l / 256 ^ j = num (l.drop j)
  | l, 0, _ => by simp
  | [], j + 1, _ => by simp [num]
  | x :: r, j + 1, h => by
    have h1 := h x (by simp)
    have h2 := num_div r j (fun y hy => h y (by simp [hy]))
    rw [List.drop_succ_cons, ← h2, num, Nat.pow_succ, Nat.mul_comm (256 ^ j) 256, ← Nat.div_div_eq_div_mul]
    congr 1
    omega
theorem num_drop2 (l : List Nat) (j : Nat) : ∃ r, num (l.drop j) = l.getD j 0 + 256 * (l.getD (j + 1) 0 + 256 * r) := by
  by_cases h1 : j < l.length
  · rw [List.drop_eq_getElem_cons h1]
    by_cases h2 : j + 1 < l.length
    · rw [List.drop_eq_getElem_cons h2]
      refine ⟨num (l.drop (j + 1 + 1)), ?_⟩
      simp [num, List.getD, h1, h2]
    · refine ⟨0, ?_⟩
      have : l.drop (j + 1) = [] := List.drop_eq_nil_of_le (by omega)
      rw [this]
      simp [num, List.getD, h1, h2]
  · refine ⟨0, ?_⟩
    have : l.drop j = [] := List.drop_eq_nil_of_le (by omega)
    rw [this]
    have h2 : ¬ j + 1 < l.length := by omega
    simp [num, List.getD, h1, h2]
theorem pow32 (k : Nat) : 32 ^ k = 256 ^ (5 * k / 8) * 2 ^ (5 * k % 8) := by
  have h1 : (32 : Nat) ^ k = 2 ^ (5 * k) := by rw [show (32 : Nat) = 2 ^ 5 by decide, ← Nat.pow_mul]
  have h2 : (256 : Nat) ^ (5 * k / 8) = 2 ^ (8 * (5 * k / 8)) := by rw [show (256 : Nat) = 2 ^ 8 by decide, ← Nat.pow_mul]
  rw [h1, h2, ← Nat.pow_add]
  congr 1
  omega
theorem d32_mod (a b r s : Nat) (hs : s < 8) : (a + 256 * (b + 256 * r)) / 2 ^ s % 32 = d32 a b s := by
  unfold d32
  have : s = 0 ∨ s = 1 ∨ s = 2 ∨ s = 3 ∨ s = 4 ∨ s = 5 ∨ s = 6 ∨ s = 7 := by omega
  rcases this with rfl | rfl | rfl | rfl | rfl | rfl | rfl | rfl <;> simp <;> omega
/-- A digit of the number. -/
theorem v32_num (l : List Nat) (hb : ∀ x ∈ l, x < 256) (i : Nat) : v32 l i = num l / 32 ^ i % 32 := by
  rw [pow32, ← Nat.div_div_eq_div_mul, num_div l _ hb]
  obtain ⟨r, hr⟩ := num_drop2 l (5 * i / 8)
  rw [hr, d32_mod _ _ _ _ (Nat.mod_lt _ (by decide))]
  rfl
/-- Digits as a number. -/
def dsum (f : Nat → Nat) : Nat → Nat
  | 0 => 0
  | k + 1 => dsum f k + f k * 32 ^ k
theorem dsum_lt (f : Nat → Nat) (n : Nat) (hf : ∀ i, i < n → f i < 32) : ∀ k, k ≤ n → dsum f k < 32 ^ k
  | 0, _ => by simp [dsum]
  | k + 1, hk => by
    have h1 := dsum_lt f n hf k (by omega)
    have h2 := hf k (by omega)
    have h3 : f k * 32 ^ k ≤ 31 * 32 ^ k := Nat.mul_le_mul_right _ (by omega)
    rw [dsum, Nat.pow_succ]
    omega
theorem dsum_mod (N : Nat) (f : Nat → Nat) (n : Nat) (hf : ∀ i, i < n → f i = N / 32 ^ i % 32) : ∀ k, k ≤ n → dsum f k = N % 32 ^ k
  | 0, _ => by simp [dsum, Nat.mod_one]
  | k + 1, hk => by
    rw [dsum, dsum_mod N f n hf k (by omega), hf k (by omega), Nat.pow_succ, Nat.mod_mul, Nat.mul_comm]
/-- A number's bytes. -/
def byts (N n : Nat) : List Nat := (List.range n).map fun j => N / 256 ^ j % 256
theorem byts_len (N n : Nat) : (byts N n).length = n := by simp [byts]
theorem byts_get (N n j : Nat) (h : j < n) : (byts N n).getD j 0 = N / 256 ^ j % 256 := by simp [byts, List.getD, h]
theorem byts_num (l : List Nat) (hb : ∀ x ∈ l, x < 256) : byts (num l) l.length = l := by
  apply List.ext_getElem
  · simp [byts]
  · intro j h1 h2
    simp only [byts, List.getElem_map, List.getElem_range]
    rw [num_div l j hb, List.drop_eq_getElem_cons h2]
    have := hb _ (List.getElem_mem h2)
    simp only [num]
    omega
theorem byts_zero (n : Nat) : byts 0 n = List.replicate n 0 := by
  apply List.ext_getElem
  · simp [byts]
  · intro j h1 h2; simp [byts]
/-- The byte in which a digit begins, behind it. -/
theorem at_low (N v k : Nat) : (N + v * 32 ^ k) / 256 ^ (5 * k / 8) = N / 256 ^ (5 * k / 8) + v * 2 ^ (5 * k % 8) := by
  rw [pow32 k, Nat.mul_comm (256 ^ _) (2 ^ _), ← Nat.mul_assoc, Nat.add_mul_div_right _ _ (Nat.pow_pos (by decide))]
theorem low_lt (N k : Nat) (hN : N < 32 ^ k) : N / 256 ^ (5 * k / 8) < 2 ^ (5 * k % 8) := by
  rw [pow32 k] at hN
  rw [Nat.div_lt_iff_lt_mul (Nat.pow_pos (by decide)), Nat.mul_comm]
  exact hN
theorem byts_step_lo (N v k j : Nat) (hj : j < 5 * k / 8) : (N + v * 32 ^ k) / 256 ^ j % 256 = N / 256 ^ j % 256 := by
  have h1 : 32 ^ k = 256 ^ j * (256 * (256 ^ (5 * k / 8 - j - 1) * 2 ^ (5 * k % 8))) := by
    rw [pow32 k]
    have : (256 : Nat) ^ (5 * k / 8) = 256 ^ j * (256 * 256 ^ (5 * k / 8 - j - 1)) := by
      rw [← Nat.pow_succ', ← Nat.pow_add]
      congr 1
      omega
    rw [this, Nat.mul_assoc, Nat.mul_assoc]
  rw [h1, show v * (256 ^ j * (256 * (256 ^ (5 * k / 8 - j - 1) * 2 ^ (5 * k % 8)))) = (v * (256 ^ (5 * k / 8 - j - 1) * 2 ^ (5 * k % 8)) * 256) * 256 ^ j by
    simp only [Nat.mul_comm, Nat.mul_left_comm], Nat.add_mul_div_right _ _ (Nat.pow_pos (by decide)), Nat.add_mul_mod_self_right]
theorem byts_step_at (N v k : Nat) (hN : N < 32 ^ k) : (N + v * 32 ^ k) / 256 ^ (5 * k / 8) % 256 = (N / 256 ^ (5 * k / 8) % 256) ||| (v * 2 ^ (5 * k % 8) % 256) := by
  rw [at_low N v k]
  have h1 := low_lt N k hN
  generalize N / 256 ^ (5 * k / 8) = a at *
  have hs : 5 * k % 8 < 8 := Nat.mod_lt _ (by decide)
  generalize 5 * k % 8 = s at *
  have h256 : 2 ^ s ≤ 2 ^ 7 := Nat.pow_le_pow_right (by decide) (by omega)
  have ha : a % 256 = a := Nat.mod_eq_of_lt (by omega)
  have h2 : v * 2 ^ s % 256 = 2 ^ s * (v % 2 ^ (8 - s)) := by
    have : (256 : Nat) = 2 ^ (8 - s) * 2 ^ s := by rw [← Nat.pow_add, show 8 - s + s = 8 by omega]
    rw [this, Nat.mul_mod_mul_right, Nat.mul_comm]
  rw [ha, Nat.or_comm, h2, ← Nat.two_pow_add_eq_or_of_lt h1, ← h2]
  have h3 : v * 2 ^ s % 256 + a < 256 := by
    rw [h2]
    have h4 : v % 2 ^ (8 - s) < 2 ^ (8 - s) := Nat.mod_lt _ (Nat.pow_pos (by decide))
    have h5 : 2 ^ s * (v % 2 ^ (8 - s)) + 2 ^ s ≤ 2 ^ s * 2 ^ (8 - s) := by
      rw [← Nat.mul_succ]; exact Nat.mul_le_mul_left _ h4
    have h6 : 2 ^ s * 2 ^ (8 - s) = 256 := by rw [← Nat.pow_add, show s + (8 - s) = 8 by omega]
    omega
  omega
theorem byts_step_next (N v k : Nat) (hN : N < 32 ^ k) (hv : v < 32) : (N + v * 32 ^ k) / 256 ^ (5 * k / 8 + 1) % 256 = v / 2 ^ (8 - 5 * k % 8) ∧ N / 256 ^ (5 * k / 8 + 1) = 0 := by
  have h1 := low_lt N k hN
  have hs : 5 * k % 8 < 8 := Nat.mod_lt _ (by decide)
  rw [Nat.pow_succ, ← Nat.div_div_eq_div_mul, ← Nat.div_div_eq_div_mul, at_low N v k]
  generalize N / 256 ^ (5 * k / 8) = a at *
  generalize 5 * k % 8 = s at *
  have : s = 0 ∨ s = 1 ∨ s = 2 ∨ s = 3 ∨ s = 4 ∨ s = 5 ∨ s = 6 ∨ s = 7 := by omega
  rcases this with rfl | rfl | rfl | rfl | rfl | rfl | rfl | rfl <;> simp at h1 ⊢ <;> omega
theorem byts_step_hi (N v k j : Nat) (hN : N < 32 ^ k) (hv : v < 32) (hj : 5 * k / 8 + 1 < j) : (N + v * 32 ^ k) / 256 ^ j % 256 = N / 256 ^ j % 256 := by
  have h0 : N + v * 32 ^ k < 256 ^ (5 * k / 8 + 2) := by
    have h1 : v * 32 ^ k ≤ 31 * 32 ^ k := Nat.mul_le_mul_right _ (by omega)
    have h2 : 32 * 32 ^ k ≤ 256 ^ (5 * k / 8 + 2) := by
      have h3 : (32 : Nat) * 32 ^ k = 2 ^ (5 * k + 5) := by rw [show (32 : Nat) = 2 ^ 5 by decide, ← Nat.pow_mul, ← Nat.pow_add]; congr 1; omega
      have h4 : (256 : Nat) ^ (5 * k / 8 + 2) = 2 ^ (8 * (5 * k / 8 + 2)) := by rw [show (256 : Nat) = 2 ^ 8 by decide, ← Nat.pow_mul]
      rw [h3, h4]
      exact Nat.pow_le_pow_right (by decide) (by omega)
    omega
  have h5 : (256 : Nat) ^ (5 * k / 8 + 2) ≤ 256 ^ j := Nat.pow_le_pow_right (by decide) (by omega)
  rw [Nat.div_eq_of_lt (by omega), Nat.div_eq_of_lt (by omega)]
end Go.Proofs.YtffghlbgbfhfdaaGreatDoor.Hx

/- The readers of the three bases: lists of digits. -/
namespace Go.Proofs.YtffghlbgbfhfdaaGreatDoor.Hx
/-- A digit's value. -/
def kv (D : List Nat) (c : Nat) : Nat := D.idxOf c
def isD (D : List Nat) (c : Nat) : Bool := decide (D.idxOf c < D.length)
/-- The place of the first byte that is no digit. -/
def fuL (D : List Nat) (t : List Nat) : Nat := t.findIdx (fun c => !isD D c)
theorem fuL_le (D t : List Nat) : fuL D t ≤ t.length := List.findIdx_le_length
theorem fuL_all (D t : List Nat) (h : ¬ fuL D t < t.length) (j : Nat) (hj : j < t.length) : D.idxOf (t.getD j 0) < D.length := by
  have h1 : fuL D t = t.length := by have := fuL_le D t; omega
  have h2 := List.findIdx_eq_length.1 h1 (t[j]'hj) (List.getElem_mem hj)
  have e : t.getD j 0 = t[j]'hj := by simp [List.getD, hj]
  rw [e]
  simpa [isD] using h2
theorem fuL_none (D t : List Nat) (h : ∀ c ∈ t, D.idxOf c < D.length) : fuL D t = t.length :=
  List.findIdx_eq_length.2 (fun c hc => by simpa [isD] using h c hc)
theorem idx_inv (D : List Nat) (c : Nat) (h : D.idxOf c < D.length) : D.getD (D.idxOf c) 0 = c := by
  have : D[D.idxOf c]'h = c := List.getElem_idxOf h
  simp [List.getD, h, this]
theorem kv_g16 : ∀ v : Fin 16, D16.idxOf (g16 v.val) = v.val := by decide +kernel
theorem kv_g32 : ∀ v : Fin 32, D32.idxOf (g32 v.val) = v.val := by decide +kernel
theorem kv_g64 : ∀ v : Fin 64, D64.idxOf (g64 v.val) = v.val := by decide +kernel
theorem g64_ne : ∀ v : Fin 64, ¬ g64 v.val = 61 := by decide +kernel
theorem n64_fill : ¬ D64.idxOf 61 < D64.length := by decide +kernel
/- Base 16 read. -/
def hexV : List Nat → List Nat
  | a :: b :: r => (kv D16 a * 16 + kv D16 b) :: hexV r
  | _ => []
def hexE (t : List Nat) : Nat × Nat := if fuL D16 t < t.length then (10, fuL D16 t) else if t.length % 2 = 0 then (0, 0) else (3, t.length)
theorem hexV_len : ∀ (n : Nat) (t : List Nat), t.length ≤ n → (hexV t).length = t.length / 2
  | _, [], _ => rfl
  | _, [a], _ => by simp [hexV]
  | 0, a :: b :: r, h => by simp at h
  | n + 1, a :: b :: r, h => by
    have := hexV_len n r (by simp at h; omega)
    simp only [hexV, List.length_cons, this]
    omega
theorem hexV_get : ∀ (n : Nat) (t : List Nat), t.length ≤ n → ∀ i, 2 * i + 1 < t.length → (hexV t).getD i 0 = kv D16 (t.getD (2 * i) 0) * 16 + kv D16 (t.getD (2 * i + 1) 0)
  | _, [], _, i, h => by simp at h
  | _, [a], _, i, h => by simp at h
  | 0, a :: b :: r, h, _, _ => by simp at h
  | n + 1, a :: b :: r, h, 0, _ => by simp [hexV, List.getD]
  | n + 1, a :: b :: r, h, i + 1, hi => by
    have := hexV_get n r (by simp at h; omega) i (by simp at hi; omega)
    rw [show 2 * (i + 1) = 2 * i + 1 + 1 by omega, show 2 * i + 1 + 1 + 1 = (2 * i + 1) + 1 + 1 by omega]
    simp only [hexV, List.getD_cons_succ]
    exact this
theorem hexL_hexV : ∀ (n : Nat) (t : List Nat), t.length ≤ n → t.length % 2 = 0 → (∀ c ∈ t, D16.idxOf c < 16) → hexL (hexV t) = t
  | _, [], _, _, _ => rfl
  | _, [a], _, h, _ => by simp at h
  | 0, a :: b :: r, h, _, _ => by simp at h
  | n + 1, a :: b :: r, h, h2, hd => by
    have ha := hd a (by simp)
    have hb := hd b (by simp)
    have hr := hexL_hexV n r (by simp at h; omega) (by simp at h2; omega) (fun c hc => hd c (by simp [hc]))
    simp only [hexV, hexL, hr]
    have e1 : (kv D16 a * 16 + kv D16 b) / 16 = kv D16 a := by unfold kv; omega
    have e2 : (kv D16 a * 16 + kv D16 b) % 16 = kv D16 b := by unfold kv; omega
    rw [e1, e2]
    have i1 := idx_inv D16 a ha
    have i2 := idx_inv D16 b hb
    unfold g16 kv
    rw [i1, i2]
theorem hexV_hexL : ∀ l : List Nat, (∀ x ∈ l, x < 256) → hexV (hexL l) = l
  | [], _ => rfl
  | x :: r, h => by
    have hx := h x (by simp)
    have hr := hexV_hexL r (fun y hy => h y (by simp [hy]))
    simp only [hexL, hexV, hr]
    have e1 : kv D16 (g16 (x / 16)) = x / 16 := kv_g16 ⟨x / 16, by omega⟩
    have e2 : kv D16 (g16 (x % 16)) = x % 16 := kv_g16 ⟨x % 16, by omega⟩
    rw [e1, e2]
    congr 1
    omega
theorem hexL_known : ∀ l : List Nat, (∀ x ∈ l, x < 256) → ∀ c ∈ hexL l, D16.idxOf c < 16
  | [], _, c, hc => by simp [hexL] at hc
  | x :: r, h, c, hc => by
    have hx := h x (by simp)
    simp only [hexL, List.mem_cons] at hc
    rcases hc with rfl | rfl | hc
    · rw [kv_g16 ⟨x / 16, by omega⟩]; simp only; omega
    · rw [kv_g16 ⟨x % 16, by omega⟩]; simp only; omega
    · exact hexL_known r (fun y hy => h y (by simp [hy])) c hc
theorem hexE_ok {t : List Nat} (h : (hexE t).1 = 0) : hexE t = (0, 0) ∧ t.length % 2 = 0 ∧ ∀ c ∈ t, D16.idxOf c < 16 := by
  unfold hexE at h ⊢
  by_cases h1 : fuL D16 t < t.length
  · simp [h1] at h
  · by_cases h2 : t.length % 2 = 0
    · rw [if_neg h1, if_pos h2]
      refine ⟨rfl, h2, fun c hc => ?_⟩
      obtain ⟨j, hj, rfl⟩ := List.mem_iff_getElem.1 hc
      have := fuL_all D16 t h1 j hj
      simpa [List.getD, hj, D16] using this
    · simp [h1, h2] at h
theorem hex_canon {t : List Nat} (h : (hexE t).1 = 0) : hexL (hexV t) = t := hexL_hexV _ t (Nat.le_refl _) (hexE_ok h).2.1 (hexE_ok h).2.2
theorem hexE_back (l : List Nat) (hb : ∀ x ∈ l, x < 256) : hexE (hexL l) = (0, 0) := by
  unfold hexE
  rw [if_neg (by rw [fuL_none D16 _ (fun c hc => hexL_known l hb c hc)]; omega), if_pos (by rw [hexL_len]; omega)]
theorem hexV_byt {t : List Nat} (h : (hexE t).1 = 0) : ∀ x ∈ hexV t, x < 256 := by
  have hk := (hexE_ok h).2.2
  have : ∀ (n : Nat) (t : List Nat), t.length ≤ n → (∀ c ∈ t, D16.idxOf c < 16) → ∀ x ∈ hexV t, x < 256 := by
    intro n
    induction n with
    | zero => intro t ht _ x hx; match t, ht with | [], _ => simp [hexV] at hx
    | succ n ih =>
      intro t ht hk x hx
      match t, ht with
      | [], _ => simp [hexV] at hx
      | [a], _ => simp [hexV] at hx
      | a :: b :: r, ht =>
        have ha := hk a (by simp)
        have hb := hk b (by simp)
        simp only [hexV, List.mem_cons] at hx
        rcases hx with rfl | hx
        · unfold kv; omega
        · exact ih r (by simp at ht; omega) (fun c hc => hk c (by simp [hc])) x hx
  exact this _ t (Nat.le_refl _) hk
/- Base 32 read. -/
def dvL (t : List Nat) (i : Nat) : Nat := kv D32 (t.getD (t.length - 1 - i) 0)
def numL (t : List Nat) : Nat := dsum (dvL t) t.length
def spL (t : List Nat) : Nat := 5 * t.length - 8 * (5 * t.length / 8)
def v32V (t : List Nat) : List Nat := byts (numL t) (5 * t.length / 8)
def v32E (t : List Nat) : Nat × Nat :=
  if fuL D32 t < t.length then (10, fuL D32 t) else if 5 ≤ spL t then (3, t.length) else if 0 < spL t ∧ ¬ kv D32 (t.getD 0 0) / 2 ^ (5 - spL t) = 0 then (11, 0) else (0, 0)
theorem v32E_ok {t : List Nat} (h : (v32E t).1 = 0) : v32E t = (0, 0) ∧ ¬ fuL D32 t < t.length ∧ spL t < 5 ∧ (0 < spL t → kv D32 (t.getD 0 0) / 2 ^ (5 - spL t) = 0) := by
  unfold v32E at h ⊢
  by_cases h1 : fuL D32 t < t.length
  · simp [h1] at h
  · by_cases h2 : 5 ≤ spL t
    · simp [h1, h2] at h
    · by_cases h3 : 0 < spL t ∧ ¬ kv D32 (t.getD 0 0) / 2 ^ (5 - spL t) = 0
      · rw [if_neg h1, if_neg h2, if_pos h3] at h; exact absurd h (by decide)
      · rw [if_neg h1, if_neg h2, if_neg h3]
        refine ⟨rfl, h1, by omega, fun h4 => ?_⟩
        by_cases h5 : kv D32 (t.getD 0 0) / 2 ^ (5 - spL t) = 0
        · exact h5
        · exact absurd ⟨h4, h5⟩ h3
theorem dvL_lt {t : List Nat} (h : ¬ fuL D32 t < t.length) (i : Nat) (hi : i < t.length) : dvL t i < 32 := fuL_all D32 t h (t.length - 1 - i) (by omega)
theorem dsum_digit (f : Nat → Nat) (n : Nat) (hf : ∀ i, i < n → f i < 32) : ∀ k, k ≤ n → ∀ i, i < k → dsum f k / 32 ^ i % 32 = f i
  | 0, _, i, hi => by omega
  | k + 1, hk, i, hi => by
    rw [dsum]
    by_cases he : i = k
    · subst he
      have h1 := dsum_lt f n hf i (by omega)
      rw [Nat.add_mul_div_right _ _ (Nat.pow_pos (by decide)), Nat.div_eq_of_lt h1, Nat.zero_add, Nat.mod_eq_of_lt (hf i (by omega))]
    · have ih := dsum_digit f n hf k (by omega) i (by omega)
      have e : f k * 32 ^ k = (f k * 32 ^ (k - i - 1) * 32) * 32 ^ i := by
        rw [Nat.mul_assoc, Nat.mul_assoc, ← Nat.pow_succ', ← Nat.pow_add]
        congr 2
        omega
      rw [e, Nat.add_mul_div_right _ _ (Nat.pow_pos (by decide)), Nat.add_mul_mod_self_right, ih]
theorem num_byts (N : Nat) : ∀ n, N < 256 ^ n → num (byts N n) = N := by
  have key : ∀ n N, num (byts N n) = N % 256 ^ n := by
    intro n
    induction n with
    | zero => intro N; simp [byts, num, Nat.mod_one]
    | succ n ih =>
      intro N
      have : byts N (n + 1) = N % 256 :: byts (N / 256) n := by
        apply List.ext_getElem
        · simp [byts]
        · intro j h1 h2
          cases j with
          | zero => simp [byts]
          | succ j =>
            simp only [byts, List.getElem_map, List.getElem_range, List.getElem_cons_succ]
            rw [Nat.div_div_eq_div_mul, Nat.pow_succ, Nat.mul_comm 256]
      rw [this, num, ih, Nat.pow_succ, Nat.mul_comm (256 ^ n) 256, Nat.mod_mul]
  intro n hN
  rw [key, Nat.mod_eq_of_lt hN]
theorem byts_byt (N n : Nat) : ∀ x ∈ byts N n, x < 256 := by
  intro x hx
  obtain ⟨j, _, rfl⟩ := List.mem_map.1 hx
  exact Nat.mod_lt _ (by decide)
theorem numL_lt {t : List Nat} (h : (v32E t).1 = 0) : numL t < 256 ^ (5 * t.length / 8) := by
  obtain ⟨_, h1, h2, h3⟩ := v32E_ok h
  have hlt := fun i hi => dvL_lt h1 i hi
  have e256 : (256 : Nat) ^ (5 * t.length / 8) = 2 ^ (5 * t.length - spL t) := by
    rw [show (256 : Nat) = 2 ^ 8 by decide, ← Nat.pow_mul]
    congr 1
    unfold spL
    omega
  have e32 : ∀ k, (32 : Nat) ^ k = 2 ^ (5 * k) := fun k => by rw [show (32 : Nat) = 2 ^ 5 by decide, ← Nat.pow_mul]
  rw [e256]
  unfold numL
  by_cases hs : spL t = 0
  · rw [hs, Nat.sub_zero, ← e32]
    exact dsum_lt _ t.length hlt _ (Nat.le_refl _)
  · have hpos : 0 < t.length := by unfold spL at hs; omega
    obtain ⟨k, hk⟩ : ∃ k, t.length = k + 1 := ⟨t.length - 1, by omega⟩
    have h4 := h3 (by omega)
    have h5 : dvL t k < 2 ^ (5 - spL t) := by
      have : dvL t k = kv D32 (t.getD 0 0) := by unfold dvL; rw [hk, show k + 1 - 1 - k = 0 by omega]
      rw [this]
      exact Nat.lt_of_div_eq_zero (Nat.pow_pos (by decide)) h4
    rw [hk, dsum]
    have h6 := dsum_lt (dvL t) t.length hlt k (by omega)
    have h7 : (dvL t k + 1) * 32 ^ k ≤ 2 ^ (5 - spL t) * 32 ^ k := Nat.mul_le_mul_right _ h5
    rw [Nat.add_mul, Nat.one_mul] at h7
    have h8 : 2 ^ (5 - spL t) * 32 ^ k = 2 ^ (5 * (k + 1) - spL t) := by
      rw [e32, ← Nat.pow_add]
      congr 1
      omega
    omega
theorem b32_canon {t : List Nat} (h : (v32E t).1 = 0) : b32L (v32V t) = t := by
  obtain ⟨_, h1, h2, h3⟩ := v32E_ok h
  have hlt := fun i hi => dvL_lt h1 i hi
  have hlen : n32 (v32V t).length = t.length := by
    unfold v32V n32
    rw [byts_len]
    unfold spL at h2
    omega
  apply List.ext_getElem
  · rw [b32L_len, hlen]
  · intro j hj1 hj2
    simp only [b32L, List.getElem_map, List.getElem_range]
    rw [hlen]
    unfold v32V
    rw [v32_num _ (byts_byt _ _)]
    rw [num_byts _ _ (numL_lt h)]
    unfold numL
    rw [dsum_digit _ t.length hlt _ (Nat.le_refl _) _ (by omega)]
    unfold dvL g32 kv
    have e : t.length - 1 - (t.length - 1 - j) = j := by omega
    rw [e, idx_inv D32 _ (fuL_all D32 t h1 j hj2)]
    simp [List.getD, hj2]
theorem v32_lt (l : List Nat) (i : Nat) : v32 l i < 32 := d32_lt _ _ _
theorem b32L_get (l : List Nat) (j : Nat) (hj : j < n32 l.length) : (b32L l).getD j 0 = g32 (v32 l (n32 l.length - 1 - j)) := by
  simp [b32L, List.getD, hj]
theorem b32_back (l : List Nat) (hb : ∀ x ∈ l, x < 256) : v32E (b32L l) = (0, 0) ∧ v32V (b32L l) = l := by
  have hL := b32L_len l
  have hn : 5 * n32 l.length / 8 = l.length := by unfold n32; omega
  have hk : ¬ fuL D32 (b32L l) < (b32L l).length := by
    rw [fuL_none D32 _ (fun c hc => ?_)]
    · omega
    · obtain ⟨j, hj, rfl⟩ := List.mem_map.1 hc
      rw [kv_g32 ⟨_, v32_lt l _⟩]
      exact v32_lt l _
  have hdv : ∀ i, i < n32 l.length → dvL (b32L l) i = num l / 32 ^ i % 32 := by
    intro i hi
    unfold dvL kv
    rw [hL, b32L_get l _ (by omega), kv_g32 ⟨_, v32_lt l _⟩]
    simp only
    rw [show n32 l.length - 1 - (n32 l.length - 1 - i) = i by omega, v32_num l hb]
  have hN : numL (b32L l) = num l := by
    unfold numL
    rw [hL, dsum_mod (num l) _ _ hdv _ (Nat.le_refl _), Nat.mod_eq_of_lt]
    refine Nat.lt_of_lt_of_le (num_lt l hb) ?_
    rw [show (256 : Nat) = 2 ^ 8 by decide, show (32 : Nat) = 2 ^ 5 by decide, ← Nat.pow_mul, ← Nat.pow_mul]
    exact Nat.pow_le_pow_right (by decide) (by unfold n32; omega)
  refine ⟨?_, ?_⟩
  · unfold v32E
    have hs : spL (b32L l) = 5 * n32 l.length - 8 * l.length := by unfold spL; rw [hL, hn]
    have hs5 : spL (b32L l) < 5 := by rw [hs]; unfold n32; omega
    rw [if_neg hk, if_neg (by omega), if_neg]
    rintro ⟨h1, h2⟩
    apply h2
    have hpos : 0 < n32 l.length := by omega
    have e0 : kv D32 ((b32L l).getD 0 0) = num l / 32 ^ (n32 l.length - 1) % 32 := by
      have := hdv (n32 l.length - 1) (by omega)
      unfold dvL at this
      rw [hL, show n32 l.length - 1 - (n32 l.length - 1) = 0 by omega] at this
      exact this
    rw [e0]
    apply Nat.div_eq_of_lt
    refine Nat.lt_of_le_of_lt (Nat.mod_le _ _) ?_
    rw [Nat.div_lt_iff_lt_mul (Nat.pow_pos (by decide))]
    refine Nat.lt_of_lt_of_le (num_lt l hb) ?_
    rw [show (256 : Nat) = 2 ^ 8 by decide, show (32 : Nat) = 2 ^ 5 by decide, ← Nat.pow_mul, ← Nat.pow_mul, ← Nat.pow_add]
    exact Nat.pow_le_pow_right (by decide) (by omega)
  · unfold v32V
    rw [hN, hL, hn]
    exact byts_num l hb
end Go.Proofs.YtffghlbgbfhfdaaGreatDoor.Hx

/- The readers' tables, the first unknown digit, a digit's value. -/
namespace Go.Proofs.YtffghlbgbfhfdaaGreatDoor.Hx
open Go.RowKit
def byt (s : ByteArray) (i : Nat) : Nat := (s.get! i).toNat
theorem byt_lt (s : ByteArray) (i : Nat) : byt s i < 256 := (s.get! i).toNat_lt
theorem byt_at (s : ByteArray) (i : Nat) (h : i < s.size) : (s[i]'h).toNat = byt s i := by
  rw [byt, ← get_at s i h]; rfl
theorem idx9 (w : World) (s : ByteArray) (k : Nat) (h : k < s.size) : (Instr.index 9 (.string s) (.int .i64 (k : Int))).run Tryz.prog w = .ok (.int .u8 ((byt s k : Nat) : Int)) w := by
  rw [run_index_string _ _ _ _ _ Tryz.underlying9, dif_pos ⟨by omega, by omega⟩]
  simp [byt_at s k h]
/-- A text as a list of bytes. -/
def tl (s : ByteArray) : List Nat := (List.range s.size).map (byt s)
theorem tl_len (s : ByteArray) : (tl s).length = s.size := by simp [tl]
theorem tl_get (s : ByteArray) (i : Nat) (h : i < s.size) : (tl s).getD i 0 = byt s i := by simp [tl, List.getD, h]
theorem size60 : (Tryz.prog.info? 58).map (·.size) = some 256 := by kernel_rfl
/-- Which digit a byte is, counted from 1, of the first m; 0: none. -/
def kn (D : List Nat) (m c : Nat) : Nat := if D.idxOf c < m then D.idxOf c + 1 else 0
def KT (D : List Nat) (m : Nat) : List Nat := (List.range 256).map (kn D m)
theorem KT_len (D : List Nat) (m : Nat) : (KT D m).length = 256 := by simp [KT]
theorem KT_get (D : List Nat) (m c : Nat) (h : c < 256) : (KT D m).getD c 0 = kn D m c := by simp [KT, List.getD, h]
def Z256 : List Nat := List.replicate 256 0
theorem Z256_len : Z256.length = 256 := by decide +kernel
theorem zc60 : Tryz.zeroCells58 = bs Z256 := by kernel_rfl
/-- The table lies at g. -/
def Kn (D : List Nat) (g : Nat) (w : World) : Prop := w.heap[g]? = some (.cells (bs (KT D D.length)) 58 (0, 0))
theorem KT16_zero : KT D16 0 = Z256 := by decide +kernel
theorem KT16_step : ∀ k : Fin 16, (KT D16 k.val).set (g16 k.val) (k.val + 1) = KT D16 (k.val + 1) := by decide +kernel
theorem g16_lt : ∀ k : Fin 16, g16 k.val < 256 := by decide +kernel
set_option maxRecDepth 100000 in
set_option maxHeartbeats 1000000 in
theorem known16_any (w : World) (ht : Tx w) : Calls Tryz.prog 27 #[] w fun e w' => e = .returned (.agg (bs (KT D16 16))) ∧ Below w.heap.size w w' := by
  have hsz := ht.sz
  have hlt0 : 0 < w.heap.size := by omega
  go_enter Tryz.func27, Tryz.ntmps27
  go_wp2_with fail
  rw [zc60]
  generalize hW : (w.alloc (Obj.cells (bs Z256) 58)).alloc (Obj.cells (bs Z256) 58) = W2
  have r0 : Hid (W2.heap[w.heap.size]? = some (.cells (bs Z256) 58 (0, 0))) := by rw [← hW]; exact (heap_alloc_old _ _ (h := by simp)).trans (heap_alloc_new _ _)
  have r1 : Hid (W2.heap[w.heap.size + 1]? = some (.cells (bs (KT D16 0)) 58 (0, 0))) := by
    rw [← hW, KT16_zero]
    have := heap_alloc_new (w.alloc (Obj.cells (bs Z256) 58)) (Obj.cells (bs Z256) 58)
    rw [show (w.alloc (Obj.cells (bs Z256) 58)).heap.size = w.heap.size + 1 by simp] at this
    exact this
  have bel2 : Below w.heap.size w W2 := by rw [← hW]; exact ((Below.refl _ w).alloc (Nat.le_refl _) _).alloc (by simp) _
  clear hW
  go_loopw [3] (fun i wr => ∃ k : Nat, i = .int .i64 (k : Int) ∧ k ≤ 16 ∧ Hid (wr.heap[w.heap.size]? = some (.cells (bs Z256) 58 (0, 0))) ∧ Hid (wr.heap[w.heap.size + 1]? = some (.cells (bs (KT D16 k)) 58 (0, 0))) ∧ Below w.heap.size w wr) (fun i _ => 16 - (intOf i).toNat)
  case atStart => exact ⟨0, rfl, by omega, r0, r1, bel2⟩
  case round =>
    clear r0 r1 bel2
    obtain ⟨k, rfl, hk, r0, r1, bel⟩ := hrel
    by_cases hlt : k < 16
    · have hk0 : (0 : Int) ≤ (k : Int) := by omega
      have hk1 : (k : Int) < 16 := by omega
      have cd := (ht.below bel hsz).a k hlt
      obtain ⟨c, hc⟩ : ∃ c, c = g16 k := ⟨_, rfl⟩
      have hc256 : c < 256 := by rw [hc]; exact g16_lt ⟨k, hlt⟩
      rw [← hc] at cd
      have hc0 : (0 : Int) ≤ (c : Int) := by omega
      have hc1 : (c : Int) < 256 := by omega
      have hkW : IntKind.u8.wrap (k : Int) = (k : Int) := wraps_u8 _ (by omega) (by omega)
      have hkW1 : IntKind.u8.wrap ((k : Int) + 1) = (k : Int) + 1 := wraps_u8 _ (by omega) (by omega)
      have cc : wr.cell? ⟨w.heap.size + 1, c, none⟩ = some (.int .u8 (((KT D16 k).getD c 0 : Nat) : Int)) := by rw [cell_of_row wr _ _ _ _ _ r1.out, bs_get _ _ (by rw [KT_len]; exact hc256)]
      have fz : wr.frozen? ⟨w.heap.size + 1, c, none⟩ = false := frozen_of_row wr _ _ _ _ r1.out
      have r1' : Hid ((wr.setCell ⟨w.heap.size + 1, c, none⟩ (.int .u8 ((k : Int) + 1))).heap[w.heap.size + 1]? = some (.cells (bs (KT D16 (k + 1))) 58 (0, 0))) := by
        show _ = _
        rw [show ((k : Int) + 1) = ((k + 1 : Nat) : Int) by omega]
        refine (heap_setCell_same _ _ _ _ _ _ r1.out).trans ?_
        rw [bs_set, hc, KT16_step ⟨k, hlt⟩]
      have r0' : Hid ((wr.setCell ⟨w.heap.size + 1, c, none⟩ (.int .u8 ((k : Int) + 1))).heap[w.heap.size]? = some (.cells (bs Z256) 58 (0, 0))) := (heap_setCell_other _ _ _ _ (by simp)).trans r0.out
      have bel' : Below w.heap.size w (wr.setCell ⟨w.heap.size + 1, c, none⟩ (.int .u8 ((k : Int) + 1))) := bel.setCell (by simp) _
      clear hc
      go_wp2
      go_roundw
      case rel => exact ⟨k + 1, by go_num, by omega, r0', r1', bel'⟩
      case measure => simp [intOf]; omega
    · have hk1 : ¬ ((k : Int) < 16) := by omega
      have hke : k = 16 := by omega
      subst hke
      go_wp2_with (first | refine wpList_load_row rfl 58 _ rfl _ rfl 58 _ (0, 0) _ (by exact r1.out) Tryz.underlying58 rfl (by rw [size60, bs_size, KT_len]) ?_ | refine wpList_store_row rfl 58 _ _ rfl _ _ rfl rfl 58 _ (by exact r0.out) (by rw [size60, bs_size, KT_len]) (by rw [bs_size, bs_size, Z256_len, KT_len]) (bs_one _) ?_)
      have hres : (wr.setRow w.heap.size (bs (KT D16 16))).heap[w.heap.size]? = some (.cells (bs (KT D16 16)) 58 (0, 0)) := setRow_heap _ _ _ _ _ _ r0.out
      refine bodyPost_ret (v := .agg (bs (KT D16 16))) (results_cell_row rfl _ _ w.heap.size 58 _ (0, 0) _ rfl hres Tryz.underlying58 rfl (by rw [size60, bs_size, KT_len])) rfl ⟨rfl, ?_⟩
      exact below_setRow bel (by omega) _
theorem KT32_zero : KT D32 0 = Z256 := by decide +kernel
theorem KT32_step : ∀ k : Fin 32, (KT D32 k.val).set (g32 k.val) (k.val + 1) = KT D32 (k.val + 1) := by decide +kernel
theorem g32_lt : ∀ k : Fin 32, g32 k.val < 256 := by decide +kernel
set_option maxRecDepth 100000 in
set_option maxHeartbeats 1000000 in
theorem known32_any (w : World) (ht : Tx w) : Calls Tryz.prog 103 #[] w fun e w' => e = .returned (.agg (bs (KT D32 32))) ∧ Below w.heap.size w w' := by
  have hsz := ht.sz
  have hlt0 : 1 < w.heap.size := by omega
  go_enter Tryz.func103, Tryz.ntmps103
  go_wp2_with fail
  rw [zc60]
  generalize hW : (w.alloc (Obj.cells (bs Z256) 58)).alloc (Obj.cells (bs Z256) 58) = W2
  have r0 : Hid (W2.heap[w.heap.size]? = some (.cells (bs Z256) 58 (0, 0))) := by rw [← hW]; exact (heap_alloc_old _ _ (h := by simp)).trans (heap_alloc_new _ _)
  have r1 : Hid (W2.heap[w.heap.size + 1]? = some (.cells (bs (KT D32 0)) 58 (0, 0))) := by
    rw [← hW, KT32_zero]
    have := heap_alloc_new (w.alloc (Obj.cells (bs Z256) 58)) (Obj.cells (bs Z256) 58)
    rw [show (w.alloc (Obj.cells (bs Z256) 58)).heap.size = w.heap.size + 1 by simp] at this
    exact this
  have bel2 : Below w.heap.size w W2 := by rw [← hW]; exact ((Below.refl _ w).alloc (Nat.le_refl _) _).alloc (by simp) _
  clear hW
  go_loopw [3] (fun i wr => ∃ k : Nat, i = .int .i64 (k : Int) ∧ k ≤ 32 ∧ Hid (wr.heap[w.heap.size]? = some (.cells (bs Z256) 58 (0, 0))) ∧ Hid (wr.heap[w.heap.size + 1]? = some (.cells (bs (KT D32 k)) 58 (0, 0))) ∧ Below w.heap.size w wr) (fun i _ => 32 - (intOf i).toNat)
  case atStart => exact ⟨0, rfl, by omega, r0, r1, bel2⟩
  case round =>
    clear r0 r1 bel2
    obtain ⟨k, rfl, hk, r0, r1, bel⟩ := hrel
    by_cases hlt : k < 32
    · have hk0 : (0 : Int) ≤ (k : Int) := by omega
      have hk1 : (k : Int) < 32 := by omega
      have cd := (ht.below bel hsz).b k hlt
      obtain ⟨c, hc⟩ : ∃ c, c = g32 k := ⟨_, rfl⟩
      have hc256 : c < 256 := by rw [hc]; exact g32_lt ⟨k, hlt⟩
      rw [← hc] at cd
      have hc0 : (0 : Int) ≤ (c : Int) := by omega
      have hc1 : (c : Int) < 256 := by omega
      have hkW : IntKind.u8.wrap (k : Int) = (k : Int) := wraps_u8 _ (by omega) (by omega)
      have hkW1 : IntKind.u8.wrap ((k : Int) + 1) = (k : Int) + 1 := wraps_u8 _ (by omega) (by omega)
      have cc : wr.cell? ⟨w.heap.size + 1, c, none⟩ = some (.int .u8 (((KT D32 k).getD c 0 : Nat) : Int)) := by rw [cell_of_row wr _ _ _ _ _ r1.out, bs_get _ _ (by rw [KT_len]; exact hc256)]
      have fz : wr.frozen? ⟨w.heap.size + 1, c, none⟩ = false := frozen_of_row wr _ _ _ _ r1.out
      have r1' : Hid ((wr.setCell ⟨w.heap.size + 1, c, none⟩ (.int .u8 ((k : Int) + 1))).heap[w.heap.size + 1]? = some (.cells (bs (KT D32 (k + 1))) 58 (0, 0))) := by
        show _ = _
        rw [show ((k : Int) + 1) = ((k + 1 : Nat) : Int) by omega]
        refine (heap_setCell_same _ _ _ _ _ _ r1.out).trans ?_
        rw [bs_set, hc, KT32_step ⟨k, hlt⟩]
      have r0' : Hid ((wr.setCell ⟨w.heap.size + 1, c, none⟩ (.int .u8 ((k : Int) + 1))).heap[w.heap.size]? = some (.cells (bs Z256) 58 (0, 0))) := (heap_setCell_other _ _ _ _ (by simp)).trans r0.out
      have bel' : Below w.heap.size w (wr.setCell ⟨w.heap.size + 1, c, none⟩ (.int .u8 ((k : Int) + 1))) := bel.setCell (by simp) _
      clear hc
      go_wp2
      go_roundw
      case rel => exact ⟨k + 1, by go_num, by omega, r0', r1', bel'⟩
      case measure => simp [intOf]; omega
    · have hk1 : ¬ ((k : Int) < 32) := by omega
      have hke : k = 32 := by omega
      subst hke
      go_wp2_with (first | refine wpList_load_row rfl 58 _ rfl _ rfl 58 _ (0, 0) _ (by exact r1.out) Tryz.underlying58 rfl (by rw [size60, bs_size, KT_len]) ?_ | refine wpList_store_row rfl 58 _ _ rfl _ _ rfl rfl 58 _ (by exact r0.out) (by rw [size60, bs_size, KT_len]) (by rw [bs_size, bs_size, Z256_len, KT_len]) (bs_one _) ?_)
      have hres : (wr.setRow w.heap.size (bs (KT D32 32))).heap[w.heap.size]? = some (.cells (bs (KT D32 32)) 58 (0, 0)) := setRow_heap _ _ _ _ _ _ r0.out
      refine bodyPost_ret (v := .agg (bs (KT D32 32))) (results_cell_row rfl _ _ w.heap.size 58 _ (0, 0) _ rfl hres Tryz.underlying58 rfl (by rw [size60, bs_size, KT_len])) rfl ⟨rfl, ?_⟩
      exact below_setRow bel (by omega) _
theorem KT64_zero : KT D64 0 = Z256 := by decide +kernel
theorem KT64_step : ∀ k : Fin 64, (KT D64 k.val).set (g64 k.val) (k.val + 1) = KT D64 (k.val + 1) := by decide +kernel
theorem g64_lt : ∀ k : Fin 64, g64 k.val < 256 := by decide +kernel
theorem value_any (D : List Nat) (hD : D.length ≤ 64) (g c : Nat) (hc : c < 256) (hv : D.idxOf c < D.length) (w : World) (hr : Hid (Kn D g w)) :
    Calls Tryz.prog 29 #[.pointer (some ⟨g, 0, none⟩), .int .u8 (c : Int)] w fun e w' => e = .returned (.int .u8 ((kv D c : Nat) : Int)) ∧ w' = w := by
  obtain ⟨v, hve⟩ : ∃ v, v = kv D c := ⟨_, rfl⟩
  have hv2 : kn D D.length c = v + 1 := by unfold kn; rw [if_pos hv, hve]; rfl
  have hle' : v + 1 ≤ 64 := by rw [hve]; unfold kv; omega
  have cc : w.cell? ⟨g, c, none⟩ = some (.int .u8 ((v + 1 : Nat) : Int)) := by rw [cell_of_row w _ _ _ _ _ hr.out, bs_get _ _ (by rw [KT_len]; exact hc), KT_get D D.length c hc, hv2]
  have h0 : (0 : Int) ≤ (c : Int) := by omega
  have h1 : (c : Int) < 256 := by omega
  have hw : IntKind.u8.wrap (((v + 1 : Nat) : Int) - 1) = (v : Int) := by rw [wraps_u8 _ (by omega) (by omega)]; omega
  rw [← hve]
  obtain ⟨x, hx⟩ : ∃ x : Int, x = ((v + 1 : Nat) : Int) := ⟨_, rfl⟩
  rw [← hx] at cc hw
  clear hv hv2 hx hve
  go_enter Tryz.func29, Tryz.ntmps29
  go_wp2
  go_ret
  exact ⟨rfl, rfl⟩
theorem fuL_at (D : List Nat) (s : ByteArray) (k : Nat) (h : k < s.size) (h1 : ∀ j, j < k → D.idxOf (byt s j) < D.length) (h2 : ¬ D.idxOf (byt s k) < D.length) : fuL D (tl s) = k := by
  unfold fuL
  rw [List.findIdx_eq (by rw [tl_len]; exact h)]
  refine ⟨?_, fun j hj => ?_⟩
  · simp [tl, isD]; omega
  · have := h1 j hj
    simp [tl, isD]; omega
theorem fuL_end (D : List Nat) (s : ByteArray) (h1 : ∀ j, j < s.size → D.idxOf (byt s j) < D.length) : fuL D (tl s) = s.size := by
  rw [fuL_none, tl_len]
  intro c hc
  obtain ⟨j, hj, rfl⟩ := List.mem_map.1 hc
  exact h1 j (by simpa using hj)
set_option maxRecDepth 100000 in
set_option maxHeartbeats 1000000 in
theorem first_any (D : List Nat) (s : ByteArray) (hs : s.size ≤ 1152921504606846976) (g : Nat) (w : World) (hr : Hid (Kn D g w)) :
    Calls Tryz.prog 28 #[.string s, .pointer (some ⟨g, 0, none⟩)] w fun e w' => e = .returned (.int .i64 ((fuL D (tl s) : Nat) : Int)) ∧ Below w.heap.size w w' := by
  have hgs : g < w.heap.size := (Array.getElem?_eq_some_iff.1 hr.out).1
  go_enter Tryz.func28, Tryz.ntmps28
  go_wp2_with fail
  go_loopw [8] (fun i wr => ∃ k : Nat, i = .int .i64 (k : Int) ∧ Hid (∀ j, j < k → D.idxOf (byt s j) < D.length) ∧ k ≤ s.size ∧ Below w.heap.size w wr) (fun i _ => s.size - (intOf i).toNat)
  case atStart => exact ⟨0, rfl, fun j hj => by omega, by omega, Below.refl _ w⟩
  case round =>
    obtain ⟨k, rfl, Hb, hk, bel⟩ := hrel
    by_cases hlt : k < s.size
    · have hlt' : (k : Int) < (s.size : Int) := by omega
      have hk0 : (0 : Int) ≤ (k : Int) := by omega
      have hix := fun (w : World) => idx9 w s k hlt
      obtain ⟨c, hc⟩ : ∃ c, c = byt s k := ⟨_, rfl⟩
      have hc256 : c < 256 := by rw [hc]; exact byt_lt _ _
      have hc0 : (0 : Int) ≤ (c : Int) := by omega
      have hc1 : (c : Int) < 256 := by omega
      rw [← hc] at hix
      have HC : Hid (c = byt s k) := hc
      clear hc
      have cc : wr.cell? ⟨g, c, none⟩ = some (.int .u8 ((kn D D.length c : Nat) : Int)) := by rw [cell_of_row wr _ _ _ _ _ ((bel.block g hgs).trans hr.out), bs_get _ _ (by rw [KT_len]; exact hc256), KT_get D D.length c hc256]
      by_cases hm : kn D D.length c = 0
      · have HE : Hid (fuL D (tl s) = k) := by
          refine fuL_at D s k hlt Hb.out ?_
          rw [← HC.out]
          unfold kn at hm
          intro h
          rw [if_pos h] at hm
          omega
        rw [hm] at cc
        have cc' : wr.cell? ⟨g, c, none⟩ = some (.int .u8 0) := cc
        clear cc
        go_wp2
        go_quiet (fail)
        go_wp2
        go_ret
        exact ⟨by rw [HE.out]; rfl, Below.drewN' bel _⟩
      · have hm' : ¬ (((kn D D.length c : Nat) : Int) = 0) := by omega
        have HE : Hid (∀ j, j < k + 1 → D.idxOf (byt s j) < D.length) := by
          intro j hj
          by_cases he : j = k
          · subst he
            rw [← HC.out]
            unfold kn at hm
            by_cases h : D.idxOf c < D.length
            · exact h
            · rw [if_neg h] at hm; exact absurd rfl hm
          · exact Hb.out j (by omega)
        obtain ⟨x, hx⟩ : ∃ x : Int, x = ((kn D D.length c : Nat) : Int) := ⟨_, rfl⟩
        rw [← hx] at cc hm'
        clear hx
        go_wp2
        go_quiet (fail)
        go_wp2
        go_roundw
        case rel => exact ⟨k + 1, by go_num, HE, by omega, Below.drewN' bel _⟩
        case measure => simp [intOf]; omega
    · have hlt' : ¬ (k : Int) < (s.size : Int) := by omega
      have HE : Hid (fuL D (tl s) = s.size) := fuL_end D s (fun j hj => Hb.out j (by omega))
      go_wp2
      go_ret
      exact ⟨by rw [HE.out]; rfl, bel⟩
end Go.Proofs.YtffghlbgbfhfdaaGreatDoor.Hx

namespace Go.Proofs.YtffghlbgbfhfdaaGreatDoor.Hx
open Go.RowKit
section
variable {P : Program} {md : Region.Mode} {ops : Array Oper} {Q : Exit → Act → World → Prop}
/-- The frame in a region that draws: slots that no operation fills are as they were; what is listed has its value. -/
structure RFr (ops : Array Oper) (a0 : Act) (V : Nat → Value) (listed : Array Bool) (a : Act) : Prop where
  df : a.defers = a0.defers
  sz : a.tmps.size = a0.tmps.size
  old : ∀ s : Nat, (∀ (j : Nat) o, ops[j]? = some o → o.dst ≠ some s) → a.tmps[s]? = a0.tmps[s]?
  val : ∀ (j : Nat) o d, ops[j]? = some o → o.dst = some d → listed.getD j true = true → a.tmps[d]? = some (V j)
theorem agetD (l : Array Bool) (i : Nat) (b : Bool) (h : i < l.size) : l.getD i b = l[i] := by unfold Array.getD; rw [dif_pos h]; rfl
theorem mem_ready {listed : Array Bool} {i : Nat} (h : i ∈ Region.ready md ops listed) : i < ops.size ∧ listed.getD i true = false ∧ ∀ o, ops[i]? = some o → ∀ e ∈ o.after, Region.binds md e = true → listed.getD e.on false = true := by
  unfold Region.ready at h
  obtain ⟨h1, h2⟩ := List.mem_filter.1 h
  have hi := List.mem_range.1 h1
  simp only [Bool.and_eq_true, Bool.not_eq_true'] at h2
  refine ⟨hi, h2.1, fun o ho e he hb => ?_⟩
  have h3 := h2.2
  rw [ho] at h3
  simp only [Option.map_some, Option.getD_some, Array.all_eq_true_iff_forall_mem] at h3
  have := h3 e he
  rw [hb] at this
  simpa using this
theorem ready_nil {listed : Array Bool} (hlt : ∀ (i : Nat) o, ops[i]? = some o → ∀ e ∈ o.after, Region.binds md e = true → e.on < i) (hs : listed.size = ops.size) (h : Region.ready md ops listed = []) : ∀ i, i < ops.size → listed.getD i true = true := by
  intro i
  induction i using Nat.strongRecOn with
  | _ i ih =>
    intro hi
    cases hc : listed.getD i true with
    | true => rfl
    | false =>
      exfalso
      have hm : i ∈ Region.ready md ops listed := by
        unfold Region.ready
        refine List.mem_filter.2 ⟨List.mem_range.2 hi, ?_⟩
        obtain ⟨o, ho⟩ : ∃ o, ops[i]? = some o := ⟨_, Array.getElem?_eq_getElem hi⟩
        simp only [hc, ho, Option.map_some, Option.getD_some, Bool.not_false, Bool.true_and, Array.all_eq_true_iff_forall_mem]
        intro e he
        cases hb : Region.binds md e with
        | false => simp
        | true =>
          have hl := hlt i o ho e he hb
          have h1 := ih e.on hl (by omega)
          have hsz : e.on < listed.size := by omega
          rw [agetD _ _ _ hsz] at h1 ⊢
          simp [h1]
      rw [h] at hm
      cases hm
theorem put_size (a : Act) (d : Option Tmp) (v : Value) : (a.put d v).tmps.size = a.tmps.size := by
  cases d <;> simp [Act.put]
theorem put_defers (a : Act) (d : Option Tmp) (v : Value) : (a.put d v).defers = a.defers := by
  cases d <;> rfl
theorem RFr.put {a0 : Act} {V : Nat → Value} {listed : Array Bool} {a : Act} (h : RFr ops a0 V listed a) {i : Nat} {o : Oper} (ho : ops[i]? = some o) (hs : listed.size = ops.size)
    (hd : ∀ (j : Nat) oj d, ops[j]? = some oj → oj.dst = some d → o.dst = some d → j = i) (hN : ∀ d, o.dst = some d → d < a0.tmps.size) : RFr ops a0 V (listed.setIfInBounds i true) (a.put o.dst (V i)) := by
  refine ⟨(put_defers _ _ _).trans h.df, (put_size _ _ _).trans h.sz, fun s hno => ?_, fun j oj d hj hdj hl => ?_⟩
  · have h1 := hno i o ho
    have h2 := h.old s hno
    cases hc : o.dst with
    | none => exact h2
    | some d =>
      have hne : d ≠ s := fun e => h1 (by rw [hc, e])
      show (a.tmps.setIfInBounds d (V i))[s]? = _
      rw [Array.getElem?_setIfInBounds_ne hne]
      exact h2
  · by_cases hji : j = i
    · subst hji
      have : oj = o := Option.some.inj (hj.symm.trans ho)
      subst this
      rw [hdj]
      show (a.tmps.setIfInBounds d (V j))[d]? = _
      rw [Array.getElem?_setIfInBounds_self]
      have := hN d hdj
      rw [if_pos (by rw [h.sz]; exact this)]
    · have hl2 : listed.getD j true = true := by
        have hjs : j < ops.size := (Array.getElem?_eq_some_iff.1 hj).1
        have hjl : j < listed.size := by omega
        rw [agetD _ _ _ (by simpa using hjl)] at hl
        rw [agetD _ _ _ hjl]
        rw [Array.getElem_setIfInBounds_ne hjl (Ne.symm hji)] at hl
        exact hl
      have h3 := h.val j oj d hj hdj hl2
      cases hc : o.dst with
      | none => exact h3
      | some d' =>
        have hne : d' ≠ d := fun e => hji (hd j oj d hj hdj (by rw [hc, e]))
        show (a.tmps.setIfInBounds d' (V i))[d]? = _
        rw [Array.getElem?_setIfInBounds_ne hne]
        exact h3
/-- A REGION THAT DRAWS ITS ORDER, BY THE VALUES: each operation, where what it waits for has its value, gives its own value and keeps S; then every order comes to the one frame. -/
theorem wpAny_vals {a0 : Act} {V : Nat → Value} {S : Bool → World → Prop} {m : Nat} (hm : m < ops.size) (hlt : ∀ (i : Nat) o, ops[i]? = some o → ∀ e ∈ o.after, Region.binds md e = true → e.on < i)
    (hd : ∀ (i j : Nat) o oj d, ops[i]? = some o → ops[j]? = some oj → oj.dst = some d → o.dst = some d → j = i) (hN : ∀ (i : Nat) o d, ops[i]? = some o → o.dst = some d → d < a0.tmps.size)
    (hstep : ∀ (i : Nat) o a w listed b, ops[i]? = some o → RFr ops a0 V listed a → S b w → (i = m → b = false) → (∀ e ∈ o.after, Region.binds md e = true → listed.getD e.on false = true) →
      if Region.wanted o (yielded ops a.tmps) = true then Oper.wp P o a w (fun a' w' => a' = a.put o.dst (V i) ∧ S (b || decide (i = m)) w') Q else V i = undef ∧ i ≠ m)
    (hend : ∀ a w, S true w → RFr ops a0 V (Array.replicate ops.size true) a → Q .normal a w) :
    ∀ (fuel : Nat) (listed : Array Bool) (a : Act) (w : World), listed.size = ops.size → listed.toList.count false ≤ fuel → RFr ops a0 V listed a → S (listed.getD m true) w → wpAny P md ops Q fuel listed a w := by
  have hall : ∀ (listed : Array Bool), listed.size = ops.size → (∀ i, i < ops.size → listed.getD i true = true) → listed = Array.replicate ops.size true := by
    intro listed hs h
    apply Array.ext
    · simp [hs]
    · intro i h1 h2
      have := h i (by omega)
      rw [agetD _ _ _ h1] at this
      simpa using this
  have hfin : ∀ (listed : Array Bool) a w, listed.size = ops.size → RFr ops a0 V listed a → S (listed.getD m true) w → Region.ready md ops listed = [] → Q .normal a w := by
    intro listed a w hs hF hS hr
    rw [ready_nil hlt hs hr m hm] at hS
    have he := hall listed hs (ready_nil hlt hs hr)
    rw [he] at hF
    exact hend a w hS hF
  intro fuel
  induction fuel with
  | zero =>
    intro listed a w hs hc hF hS
    have hr : Region.ready md ops listed = [] := by
      cases hr : Region.ready md ops listed with
      | nil => rfl
      | cons i rs =>
        exfalso
        have hm := mem_ready (md := md) (ops := ops) (listed := listed) (i := i) (by rw [hr]; simp)
        have hil : i < listed.size := by omega
        have h1 : listed[i] = false := by rw [← agetD _ _ true hil]; exact hm.2.1
        have h2 : false ∈ listed.toList := by rw [← h1]; exact Array.getElem_mem_toList hil
        have := List.count_pos_iff.2 h2
        omega
    exact ⟨hr, hfin listed a w hs hF hS hr⟩
  | succ fuel ih =>
    intro listed a w hs hc hF hS
    refine ⟨hfin listed a w hs hF hS, fun i hi => ?_⟩
    obtain ⟨hil, hun, hdep⟩ := mem_ready hi
    obtain ⟨o, ho⟩ : ∃ o, ops[i]? = some o := ⟨_, Array.getElem?_eq_getElem hil⟩
    have hls : i < listed.size := by omega
    have h1 : listed[i] = false := by rw [← agetD _ _ true hls]; exact hun
    have hcnt : (listed.setIfInBounds i true).toList.count false ≤ fuel := by
      have h2 : listed.toList[i]'(by simpa using hls) = false := by simpa using h1
      rw [Array.toList_setIfInBounds, List.count_set (by simpa using hls), h2]
      simp only [BEq.rfl, if_true]
      have h3 : ¬ ((true == false) = true) := by decide
      rw [if_neg h3]
      omega
    have hst := hstep i o a w listed _ ho hF hS (fun e => by rw [← e]; exact hun) (hdep o ho)
    have hflag : (listed.setIfInBounds i true).getD m true = (listed.getD m true || decide (i = m)) := by
      have hml : m < listed.size := by omega
      rw [agetD _ _ _ (by simpa using hml), agetD _ _ _ hml]
      by_cases he : i = m
      · subst he; simp
      · rw [Array.getElem_setIfInBounds_ne hml he]; simp [he]
    have hnext : ∀ w', S (listed.getD m true || decide (i = m)) w' → wpAny P md ops Q fuel (listed.setIfInBounds i true) (a.put o.dst (V i)) w' := fun w' hS' =>
      ih _ _ _ (by simpa using hs) hcnt (hF.put ho hs (fun j oj d hj h2 h3 => hd i j o oj d ho hj h2 h3) (fun d h => hN i o d ho h)) (by rw [hflag]; exact hS')
    refine wpOp_step ho fun K' hK => ?_
    by_cases hw : Region.wanted o (yielded ops a.tmps) = true
    · rw [if_pos hw] at hst ⊢
      exact Oper.wp_mono (fun a' w' ⟨e, hS'⟩ => hK _ _ (by rw [e]; exact hnext w' hS')) hst
    · rw [if_neg hw] at hst ⊢
      rw [← hst.1]
      refine hK _ _ (hnext w ?_)
      rw [decide_eq_false hst.2, Bool.or_false]
      exact hS
theorem RFr.start (a0 : Act) (V : Nat → Value) (listed : Array Bool) (h : ∀ j, j < ops.size → listed.getD j true = false) : RFr ops a0 V listed a0 :=
  ⟨rfl, rfl, fun _ _ => rfl, fun j o d hj _ hl => by have := h j (Array.getElem?_eq_some_iff.1 hj).1; rw [this] at hl; cases hl⟩
/-- All listed: there is one such frame. -/
theorem RFr.one {a0 : Act} {V : Nat → Value} {listed : Array Bool} {a b : Act} (ha : RFr ops a0 V listed a) (hb : RFr ops a0 V listed b) (hl : ∀ j, j < ops.size → listed.getD j true = true) : a = b := by
  have ht : a.tmps = b.tmps := by
    apply Array.ext_getElem?
    intro s
    by_cases h : ∃ (j : Nat) (o : Oper), ops[j]? = some o ∧ o.dst = some s
    · obtain ⟨j, o, hj, hd⟩ := h
      have := hl j (Array.getElem?_eq_some_iff.1 hj).1
      rw [ha.val j o s hj hd this, hb.val j o s hj hd this]
    · have hno : ∀ (j : Nat) o, ops[j]? = some o → o.dst ≠ some s := fun j o hj hd => h ⟨j, o, hj, hd⟩
      rw [ha.old s hno, hb.old s hno]
  have hdf : a.defers = b.defers := ha.df.trans hb.df.symm
  cases a
  cases b
  simp_all
/-- The frame behind the first n operations, in the text's order. -/
def putN (ops : Array Oper) (V : Nat → Value) (a0 : Act) : Nat → Act
  | 0 => a0
  | n + 1 => (putN ops V a0 n).put ((ops[n]?).bind (·.dst)) (V n)
def listN (k : Nat) : Nat → Array Bool
  | 0 => Array.replicate k false
  | n + 1 => (listN k n).setIfInBounds n true
theorem listN_size (k : Nat) : ∀ n, (listN k n).size = k
  | 0 => by simp [listN]
  | n + 1 => by rw [listN, Array.size_setIfInBounds, listN_size k n]
theorem listN_get (k : Nat) : ∀ n j, j < k → (listN k n).getD j true = decide (j < n)
  | 0, j, h => by rw [listN, agetD _ _ _ (by simpa using h)]; simp
  | n + 1, j, h => by
    have hs := listN_size k n
    have hj : j < (listN k n).size := by omega
    have ih := listN_get k n j h
    rw [agetD _ _ _ hj] at ih
    rw [listN, agetD _ _ _ (by simpa using hj)]
    by_cases he : n = j
    · subst he
      simp
    · rw [Array.getElem_setIfInBounds_ne hj he, ih]
      have : (j < n) = (j < n + 1) := by simp only [eq_iff_iff]; omega
      simp only [this]
theorem putN_fr {a0 : Act} {V : Nat → Value} (hd : ∀ (i j : Nat) o oj d, ops[i]? = some o → ops[j]? = some oj → oj.dst = some d → o.dst = some d → j = i) (hN : ∀ (i : Nat) o d, ops[i]? = some o → o.dst = some d → d < a0.tmps.size) :
    ∀ n, n ≤ ops.size → RFr ops a0 V (listN ops.size n) (putN ops V a0 n)
  | 0, _ => RFr.start a0 V _ fun j hj => by rw [listN_get _ _ _ hj]; simp
  | n + 1, h => by
    have ho : ops[n]? = some ops[n] := Array.getElem?_eq_getElem (by omega)
    have := (putN_fr (V := V) hd hN n (by omega)).put (i := n) ho (listN_size _ _) (fun j oj d hj h2 h3 => hd n j _ oj d ho hj h2 h3) (fun d h => hN n _ d ho h)
    rw [putN, listN, ho]
    exact this
/-- THE REGION, WHOLE: every order comes to the frame of the text's own order. -/
theorem wp_region_vals {id : Nat} {a0 : Act} {V : Nat → Value} {S : Bool → World → Prop} {m : Nat} (hms : m < ops.size) {w : World} (hm : P.follows .mixedOrders = true) (hlt : ∀ (i : Nat) o, ops[i]? = some o → ∀ e ∈ o.after, Region.binds .any e = true → e.on < i)
    (hd : ∀ (i j : Nat) o oj d, ops[i]? = some o → ops[j]? = some oj → oj.dst = some d → o.dst = some d → j = i) (hN : ∀ (i : Nat) o d, ops[i]? = some o → o.dst = some d → d < a0.tmps.size)
    (hstep : ∀ (i : Nat) o a w listed b, ops[i]? = some o → RFr ops a0 V listed a → S b w → (i = m → b = false) → (∀ e ∈ o.after, Region.binds .any e = true → listed.getD e.on false = true) →
      if Region.wanted o (yielded ops a.tmps) = true then Oper.wp P o a w (fun a' w' => a' = a.put o.dst (V i) ∧ S (b || decide (i = m)) w') Q else V i = undef ∧ i ≠ m)
    (hS : S false w.drew) (hend : ∀ w', S true w' → Q .normal (putN ops V a0 ops.size) w') : (Code.region id ops true).wp P Q a0 w := by
  refine wp_region_any hm ?_
  show wpAny P .any ops Q ops.size (Array.replicate ops.size false) a0 w.drew
  refine wpAny_vals hms hlt hd hN hstep (fun a w' hS' hF => ?_) _ _ _ _ (by simp) (by simp) (RFr.start a0 V _ fun j hj => ?_) (by rw [agetD _ _ _ (by simpa using hms)]; simpa using hS)
  · have hb := putN_fr (V := V) hd hN ops.size (Nat.le_refl _)
    have hl : listN ops.size ops.size = Array.replicate ops.size true := by
      apply Array.ext
      · rw [listN_size]; simp
      · intro i h1 h2
        have hi : i < ops.size := by rw [listN_size] at h1; exact h1
        rw [← agetD _ _ true h1, listN_get _ _ _ hi]
        simp [hi]
    rw [hl] at hb
    rw [hF.one hb (fun j hj => by rw [agetD _ _ _ (by simpa using hj)]; simp)]
    exact hend w' hS'
  · rw [agetD _ _ _ (by simpa using hj)]; simp
end
def findR (n : Nat) : Code → Option (Array Oper)
  | .region m ops _ => if m = n then some ops else none
  | .seq a b => match findR n a with
    | some c => some c
    | none => findR n b
  | .scope c => findR n c
  | .block _ c => findR n c
  | .loop c => findR n c
  | .cond _ a b => match findR n a with
    | some c => some c
    | none => findR n b
  | _ => none
/-- The closed facts of a region, by running. -/
def okR (ops : Array Oper) (N : Nat) : Bool :=
  (List.range ops.size).all fun i => ((ops[i]?).map fun o => (o.after.all fun e => !Region.binds .any e || decide (e.on < i)) && (match o.dst with | some d => decide (d < N) | none => true) &&
    (List.range ops.size).all fun j => decide (j = i) || ((ops[j]?).map fun p => decide (o.dst = none) || decide (p.dst ≠ o.dst)).getD true).getD true
theorem okR_at {ops : Array Oper} {N : Nat} (h : okR ops N = true) {i : Nat} {o : Oper} (ho : ops[i]? = some o) :
    (∀ e ∈ o.after, Region.binds .any e = true → e.on < i) ∧ (∀ d, o.dst = some d → d < N) ∧ ∀ (j : Nat) oj d, ops[j]? = some oj → oj.dst = some d → o.dst = some d → j = i := by
  have hi : i < ops.size := (Array.getElem?_eq_some_iff.1 ho).1
  have h1 := List.all_eq_true.1 h i (List.mem_range.2 hi)
  rw [ho] at h1
  simp only [Option.map_some, Option.getD_some, Bool.and_eq_true] at h1
  obtain ⟨⟨h1, h2⟩, h3⟩ := h1
  refine ⟨fun e he hb => ?_, fun d hd => ?_, fun j oj d hj hdj hd => ?_⟩
  · have := Array.all_eq_true_iff_forall_mem.1 h1 e he
    rw [hb] at this
    simpa using this
  · rw [hd] at h2
    simpa using h2
  · have hjs : j < ops.size := (Array.getElem?_eq_some_iff.1 hj).1
    have h4 := List.all_eq_true.1 h3 j (List.mem_range.2 hjs)
    rw [hj] at h4
    simp only [Option.map_some, Option.getD_some, Bool.or_eq_true, decide_eq_true_eq] at h4
    rcases h4 with h4 | h4 | h4
    · exact h4
    · rw [hd] at h4; cases h4
    · rw [hd, hdj] at h4; exact absurd rfl h4
theorem ev_old {ops : Array Oper} {a0 a : Act} {V : Nat → Value} {listed : Array Bool} (hF : RFr ops a0 V listed a) (s : Nat) (v : Value) (hs : a0.tmps[s]? = some v) (hno : (ops.all fun o => decide (o.dst ≠ some s)) = true) : a.eval (.tmp s) = v := by
  have h := hF.old s (fun j o hj hd => by
    have := Array.all_eq_true_iff_forall_mem.1 hno o (Array.mem_of_getElem? hj)
    simp [hd] at this)
  rw [hs] at h
  show a.tmps.getD s undef = v
  rw [Array.getD_eq_getD_getElem?, h]
  rfl
theorem tm_dep {ops : Array Oper} {a0 a : Act} {V : Nat → Value} {listed : Array Bool} (hF : RFr ops a0 V listed a) (j d : Nat) (hd : (ops[j]?).bind (·.dst) = some d) (hl : listed.getD j false = true) : a.tmps[d]? = some (V j) := by
  obtain ⟨o, ho, hod⟩ : ∃ o, ops[j]? = some o ∧ o.dst = some d := by
    cases h : ops[j]? with
    | none => rw [h] at hd; cases hd
    | some o => rw [h] at hd; exact ⟨o, rfl, hd⟩
  refine hF.val j o d ho hod ?_
  have hj : j < listed.size := by
    rcases Nat.lt_or_ge j listed.size with h | h
    · exact h
    · unfold Array.getD at hl; rw [dif_neg (by omega)] at hl; cases hl
  rw [agetD _ _ _ hj] at hl ⊢
  exact hl
theorem tm_old {ops : Array Oper} {a0 a : Act} {V : Nat → Value} {listed : Array Bool} (hF : RFr ops a0 V listed a) (s : Nat) (v : Value) (hs : a0.tmps[s]? = some v) (hno : (ops.all fun o => decide (o.dst ≠ some s)) = true) : a.tmps[s]? = some v := by
  have h := hF.old s (fun j o hj hd => by
    have := Array.all_eq_true_iff_forall_mem.1 hno o (Array.mem_of_getElem? hj)
    simp [hd] at this)
  rw [h, hs]
theorem ev_dep {ops : Array Oper} {a0 a : Act} {V : Nat → Value} {listed : Array Bool} (hF : RFr ops a0 V listed a) (j d : Nat) (hd : (ops[j]?).bind (·.dst) = some d) (hl : listed.getD j false = true) : a.eval (.tmp d) = V j := by
  show a.tmps.getD d undef = V j
  rw [Array.getD_eq_getD_getElem?, tm_dep hF j d hd hl]
  rfl
theorem yl_dep {ops : Array Oper} {a0 a : Act} {V : Nat → Value} {listed : Array Bool} (hF : RFr ops a0 V listed a) (j d : Nat) (b : Bool) (hd : (ops[j]?).bind (·.dst) = some d) (hl : listed.getD j false = true) (hv : V j = .bool b) : yielded ops a.tmps j = some b := by
  unfold yielded
  rw [hd]
  show (match a.tmps[d]? with | some (.bool b) => some b | _ => none) = _
  rw [tm_dep hF j d hd hl, hv]
theorem fact {ops : Array Oper} {i : Nat} {o : Oper} {α : Type} {f : Oper → α} {x : α} (ho : ops[i]? = some o) (h : (ops[i]?).map f = some x) : f o = x := by rw [ho] at h; exact Option.some.inj h
theorem dep_of {ops : Array Oper} {i : Nat} {o : Oper} {listed : Array Bool} (ho : ops[i]? = some o) (hdep : ∀ e ∈ o.after, Region.binds .any e = true → listed.getD e.on false = true) (j : Nat) (h : ((ops[i]?).map fun o => o.after.any fun e => Region.binds .any e && e.on == j) = some true) : listed.getD j false = true := by
  have h1 : (o.after.any fun e => Region.binds .any e && e.on == j) = true := fact ho h
  rw [← Array.any_toList] at h1
  obtain ⟨e, he, hb⟩ := List.any_eq_true.1 h1
  simp only [Bool.and_eq_true, beq_iff_eq] at hb
  rw [← hb.2]
  exact hdep e (Array.mem_toList_iff.1 he) hb.1
theorem want_none {o : Oper} {f : Nat → Option Bool} (h : o.guard = none) : Region.wanted o f = true := by unfold Region.wanted; rw [h]
theorem want_some {o : Oper} {f : Nat → Option Bool} {j : Nat} {b c : Bool} (h : o.guard = some (j, b)) (hy : f j = some c) : Region.wanted o f = (c == b) := by
  unfold Region.wanted; rw [h]; show (f j == some b) = _; rw [hy]; cases b <;> cases c <;> rfl
end Go.Proofs.YtffghlbgbfhfdaaGreatDoor.Hx

/- The drawn region of UnHex's round: each operation by its value. Made by a program from a table of operations. -/
namespace Go.Proofs.YtffghlbgbfhfdaaGreatDoor.Hx
open Go.RowKit
noncomputable def reg11 : Array Oper := ((Tryz.f13.body.bind (findR 11)).getD #[])
theorem okR11 : okR reg11 50 = true := by kernel_rfl
theorem reg11_size : reg11.size = 17 := by kernel_rfl
def V11 (s : ByteArray) (O n k c d x y X Y : Nat) : Nat → Value
  | 0 => .slice (some ⟨O, 0, none⟩) n n
  | 1 => .int .i64 (k : Int)
  | 2 => .string s
  | 3 => .int .i64 (k : Int)
  | 4 => .int .i64 (2 * (k : Int))
  | 5 => .int .u8 (c : Int)
  | 6 => .int .u8 (x : Int)
  | 7 => .int .u8 (Y : Int)
  | 8 => .string s
  | 9 => .int .i64 (k : Int)
  | 10 => .int .i64 (2 * (k : Int))
  | 11 => .int .i64 (2 * (k : Int) + 1)
  | 12 => .int .u8 (d : Int)
  | 13 => .int .u8 (y : Int)
  | 14 => .int .u8 (X : Int)
  | 15 => .pointer (some ⟨O, k, none⟩)
  | _ => undef
set_option maxHeartbeats 1000000 in
theorem step11 (a0 : Act) (s : ByteArray) (O G n k c d x y X Y : Nat) (S : Bool → World → Prop) (Q : Exit → Act → World → Prop) (h7 : a0.tmps[7]? = some (.slice (some ⟨O, 0, none⟩) n n)) (h8 : a0.tmps[8]? = some (.int .i64 (k : Int))) (h0 : a0.tmps[0]? = some (.string s)) (h5 : a0.tmps[5]? = some (.pointer (some ⟨G, 0, none⟩)))
    (hm2 : IntKind.i64.wrap (2 * (k : Int)) = 2 * (k : Int)) (hm3 : IntKind.i64.wrap (2 * (k : Int) + 1) = 2 * (k : Int) + 1)
    (hix0 : ∀ W : World, (Instr.index 9 (.string s) (.int .i64 (2 * (k : Int)))).run Tryz.prog W = .ok (.int .u8 (c : Int)) W)
    (hix1 : ∀ W : World, (Instr.index 9 (.string s) (.int .i64 (2 * (k : Int) + 1))).run Tryz.prog W = .ok (.int .u8 (d : Int)) W)
    (hsh : IntKind.u8.wrap ((x : Int) * 16) = (Y : Int)) (hor : bits BinOp.or IntKind.u8 (Y : Int) (y : Int) = (X : Int)) (hk0 : (0 : Int) ≤ (k : Int)) (hk1 : (k : Int) < (n : Int))
    (hCX : ∀ b w, S b w → Calls Tryz.prog 29 #[.pointer (some ⟨G, 0, none⟩), .int .u8 (c : Int)] w fun e w' => e = .returned (.int .u8 (x : Int)) ∧ S b w')
    (hCY : ∀ b w, S b w → Calls Tryz.prog 29 #[.pointer (some ⟨G, 0, none⟩), .int .u8 (d : Int)] w fun e w' => e = .returned (.int .u8 (y : Int)) ∧ S b w')
    (hce : ∀ w, S false w → ∃ v, w.cell? ⟨O, k, none⟩ = some v) (hfz : ∀ w, S false w → w.frozen? ⟨O, k, none⟩ = false) (hst : ∀ w, S false w → S true (w.setCell ⟨O, k, none⟩ (.int .u8 (X : Int))))
    (i : Nat) (o : Oper) (a : Act) (w : World) (listed : Array Bool) (b : Bool) (ho : reg11[i]? = some o) (hF : RFr reg11 a0 (V11 s O n k c d x y X Y) listed a) (hS : S b w) (hb : i = 16 → b = false) (hdep : ∀ e ∈ o.after, Region.binds .any e = true → listed.getD e.on false = true) :
      if Region.wanted o (yielded reg11 a.tmps) = true then Oper.wp Tryz.prog o a w (fun a' w' => a' = a.put o.dst (V11 s O n k c d x y X Y i) ∧ S (b || decide (i = 16)) w') Q else V11 s O n k c d x y X Y i = undef ∧ i ≠ 16 := by
  match i, ho with
  | 0, ho =>
    rw [if_pos (want_none (fact ho (by kernel_rfl)))]
    have hop : o.op = .move (.tmp 7) := fact ho (by kernel_rfl)
    have hds : o.dst = some 32 := fact ho (by kernel_rfl)
    have t7 := tm_old hF 7 _ h7 (by kernel_rfl)
    unfold Oper.wp
    simp [execOp, hop, hds, t7, go_sem, V11, hS]
  | 1, ho =>
    rw [if_pos (want_none (fact ho (by kernel_rfl)))]
    have hop : o.op = .move (.tmp 8) := fact ho (by kernel_rfl)
    have hds : o.dst = some 33 := fact ho (by kernel_rfl)
    have t8 := tm_old hF 8 _ h8 (by kernel_rfl)
    unfold Oper.wp
    simp [execOp, hop, hds, t8, go_sem, V11, hS]
  | 2, ho =>
    rw [if_pos (want_none (fact ho (by kernel_rfl)))]
    have hop : o.op = .move (.tmp 0) := fact ho (by kernel_rfl)
    have hds : o.dst = some 34 := fact ho (by kernel_rfl)
    have t0 := tm_old hF 0 _ h0 (by kernel_rfl)
    unfold Oper.wp
    simp [execOp, hop, hds, t0, go_sem, V11, hS]
  | 3, ho =>
    rw [if_pos (want_none (fact ho (by kernel_rfl)))]
    have hop : o.op = .move (.tmp 8) := fact ho (by kernel_rfl)
    have hds : o.dst = some 35 := fact ho (by kernel_rfl)
    have t8 := tm_old hF 8 _ h8 (by kernel_rfl)
    unfold Oper.wp
    simp [execOp, hop, hds, t8, go_sem, V11, hS]
  | 4, ho =>
    rw [if_pos (want_none (fact ho (by kernel_rfl)))]
    have hop : o.op = .binOp .mul 3 (.const (.int .i64 2)) (.tmp 35) 3 := fact ho (by kernel_rfl)
    have hds : o.dst = some 36 := fact ho (by kernel_rfl)
    have t35 := tm_dep hF 3 35 (by kernel_rfl) (dep_of ho hdep 3 (by kernel_rfl))
    simp only [V11] at t35
    unfold Oper.wp
    simp [execOp, hop, hds, t35, go_sem, V11, hS, hm2]
  | 5, ho =>
    rw [if_pos (want_none (fact ho (by kernel_rfl)))]
    have hop : o.op = .index 9 (.tmp 34) (.tmp 36) := fact ho (by kernel_rfl)
    have hds : o.dst = some 37 := fact ho (by kernel_rfl)
    have t34 := tm_dep hF 2 34 (by kernel_rfl) (dep_of ho hdep 2 (by kernel_rfl))
    simp only [V11] at t34
    have t36 := tm_dep hF 4 36 (by kernel_rfl) (dep_of ho hdep 4 (by kernel_rfl))
    simp only [V11] at t36
    unfold Oper.wp
    simp [execOp, hop, hds, Act.eval, t34, t36, hix0, Oper.upon, Act.put, V11, hS]
  | 6, ho =>
    rw [if_pos (want_none (fact ho (by kernel_rfl)))]
    have hop : o.op = .call { callee := .value (.func 29), args := #[.tmp 5, .tmp 37], argTypes := #[58, 5] } := fact ho (by kernel_rfl)
    have hds : o.dst = some 38 := fact ho (by kernel_rfl)
    have t5 := tm_old hF 5 _ h5 (by kernel_rfl)
    have t37 := tm_dep hF 5 37 (by kernel_rfl) (dep_of ho hdep 5 (by kernel_rfl))
    simp only [V11] at t37
    unfold Oper.wp
    simp [execOp, hop, hds, t5, t37, go_sem, V11]
    refine (hCX b w hS).mono ?_
    rintro e w' ⟨rfl, hS'⟩
    exact ⟨rfl, hS'⟩
  | 7, ho =>
    rw [if_pos (want_none (fact ho (by kernel_rfl)))]
    have hop : o.op = .binOp .shl 5 (.tmp 38) (.const (.int .u64 4)) 63 := fact ho (by kernel_rfl)
    have hds : o.dst = some 39 := fact ho (by kernel_rfl)
    have t38 := tm_dep hF 6 38 (by kernel_rfl) (dep_of ho hdep 6 (by kernel_rfl))
    simp only [V11] at t38
    unfold Oper.wp
    simp [execOp, hop, hds, t38, go_sem, V11, hS, hsh]
  | 8, ho =>
    rw [if_pos (want_none (fact ho (by kernel_rfl)))]
    have hop : o.op = .move (.tmp 0) := fact ho (by kernel_rfl)
    have hds : o.dst = some 40 := fact ho (by kernel_rfl)
    have t0 := tm_old hF 0 _ h0 (by kernel_rfl)
    unfold Oper.wp
    simp [execOp, hop, hds, t0, go_sem, V11, hS]
  | 9, ho =>
    rw [if_pos (want_none (fact ho (by kernel_rfl)))]
    have hop : o.op = .move (.tmp 8) := fact ho (by kernel_rfl)
    have hds : o.dst = some 41 := fact ho (by kernel_rfl)
    have t8 := tm_old hF 8 _ h8 (by kernel_rfl)
    unfold Oper.wp
    simp [execOp, hop, hds, t8, go_sem, V11, hS]
  | 10, ho =>
    rw [if_pos (want_none (fact ho (by kernel_rfl)))]
    have hop : o.op = .binOp .mul 3 (.const (.int .i64 2)) (.tmp 41) 3 := fact ho (by kernel_rfl)
    have hds : o.dst = some 42 := fact ho (by kernel_rfl)
    have t41 := tm_dep hF 9 41 (by kernel_rfl) (dep_of ho hdep 9 (by kernel_rfl))
    simp only [V11] at t41
    unfold Oper.wp
    simp [execOp, hop, hds, t41, go_sem, V11, hS, hm2]
  | 11, ho =>
    rw [if_pos (want_none (fact ho (by kernel_rfl)))]
    have hop : o.op = .binOp .add 3 (.tmp 42) (.const (.int .i64 1)) 3 := fact ho (by kernel_rfl)
    have hds : o.dst = some 43 := fact ho (by kernel_rfl)
    have t42 := tm_dep hF 10 42 (by kernel_rfl) (dep_of ho hdep 10 (by kernel_rfl))
    simp only [V11] at t42
    unfold Oper.wp
    simp [execOp, hop, hds, t42, go_sem, V11, hS, hm3]
  | 12, ho =>
    rw [if_pos (want_none (fact ho (by kernel_rfl)))]
    have hop : o.op = .index 9 (.tmp 40) (.tmp 43) := fact ho (by kernel_rfl)
    have hds : o.dst = some 44 := fact ho (by kernel_rfl)
    have t40 := tm_dep hF 8 40 (by kernel_rfl) (dep_of ho hdep 8 (by kernel_rfl))
    simp only [V11] at t40
    have t43 := tm_dep hF 11 43 (by kernel_rfl) (dep_of ho hdep 11 (by kernel_rfl))
    simp only [V11] at t43
    unfold Oper.wp
    simp [execOp, hop, hds, Act.eval, t40, t43, hix1, Oper.upon, Act.put, V11, hS]
  | 13, ho =>
    rw [if_pos (want_none (fact ho (by kernel_rfl)))]
    have hop : o.op = .call { callee := .value (.func 29), args := #[.tmp 5, .tmp 44], argTypes := #[58, 5] } := fact ho (by kernel_rfl)
    have hds : o.dst = some 45 := fact ho (by kernel_rfl)
    have t5 := tm_old hF 5 _ h5 (by kernel_rfl)
    have t44 := tm_dep hF 12 44 (by kernel_rfl) (dep_of ho hdep 12 (by kernel_rfl))
    simp only [V11] at t44
    unfold Oper.wp
    simp [execOp, hop, hds, t5, t44, go_sem, V11]
    refine (hCY b w hS).mono ?_
    rintro e w' ⟨rfl, hS'⟩
    exact ⟨rfl, hS'⟩
  | 14, ho =>
    rw [if_pos (want_none (fact ho (by kernel_rfl)))]
    have hop : o.op = .binOp .or 5 (.tmp 39) (.tmp 45) 5 := fact ho (by kernel_rfl)
    have hds : o.dst = some 46 := fact ho (by kernel_rfl)
    have t39 := tm_dep hF 7 39 (by kernel_rfl) (dep_of ho hdep 7 (by kernel_rfl))
    simp only [V11] at t39
    have t45 := tm_dep hF 13 45 (by kernel_rfl) (dep_of ho hdep 13 (by kernel_rfl))
    simp only [V11] at t45
    unfold Oper.wp
    simp [execOp, hop, hds, t39, t45, go_sem, V11, hS, hor]
  | 15, ho =>
    rw [if_pos (want_none (fact ho (by kernel_rfl)))]
    have hop : o.op = .indexAddr 38 (.tmp 32) (.tmp 33) := fact ho (by kernel_rfl)
    have hds : o.dst = some 47 := fact ho (by kernel_rfl)
    have t32 := tm_dep hF 0 32 (by kernel_rfl) (dep_of ho hdep 0 (by kernel_rfl))
    simp only [V11] at t32
    have t33 := tm_dep hF 1 33 (by kernel_rfl) (dep_of ho hdep 1 (by kernel_rfl))
    simp only [V11] at t33
    unfold Oper.wp
    simp [execOp, hop, hds, t32, t33, go_sem, V11, hS, hk0, hk1]
  | 16, ho =>
    rw [if_pos (want_none (fact ho (by kernel_rfl)))]
    have hop : o.op = .store 5 (.tmp 47) (.tmp 46) := fact ho (by kernel_rfl)
    have hds : o.dst = none := fact ho (by kernel_rfl)
    have t47 := tm_dep hF 15 47 (by kernel_rfl) (dep_of ho hdep 15 (by kernel_rfl))
    simp only [V11] at t47
    have t46 := tm_dep hF 14 46 (by kernel_rfl) (dep_of ho hdep 14 (by kernel_rfl))
    simp only [V11] at t46
    obtain rfl := hb rfl
    obtain ⟨v, hv⟩ := hce w hS
    have hf := hfz w hS
    have hq := hst w hS
    unfold Oper.wp
    simp [execOp, hop, hds, t47, t46, go_sem, hv, hf, hq]
  | n + 17, ho =>
    exfalso
    have h1 : n + 17 < reg11.size := (Array.getElem?_eq_some_iff.1 ho).1
    rw [reg11_size] at h1
    omega
theorem put11 (s : ByteArray) (O n k c d x y X Y : Nat) (v0 v1 v2 v3 v4 v5 v6 v7 v8 v9 v10 v11 v12 v13 v14 v15 v16 v17 v18 v19 v20 v21 v22 v23 v24 v25 v26 v27 v28 v29 v30 v31 v32 v33 v34 v35 v36 v37 v38 v39 v40 v41 v42 v43 v44 v45 v46 v47 v48 v49 : Value) : putN reg11 (V11 s O n k c d x y X Y) ⟨#[v0, v1, v2, v3, v4, v5, v6, v7, v8, v9, v10, v11, v12, v13, v14, v15, v16, v17, v18, v19, v20, v21, v22, v23, v24, v25, v26, v27, v28, v29, v30, v31, v32, v33, v34, v35, v36, v37, v38, v39, v40, v41, v42, v43, v44, v45, v46, v47, v48, v49], []⟩ reg11.size = ⟨#[v0, v1, v2, v3, v4, v5, v6, v7, v8, v9, v10, v11, v12, v13, v14, v15, v16, v17, v18, v19, v20, v21, v22, v23, v24, v25, v26, v27, v28, v29, v30, v31, .slice (some ⟨O, 0, none⟩) n n, .int .i64 (k : Int), .string s, .int .i64 (k : Int), .int .i64 (2 * (k : Int)), .int .u8 (c : Int), .int .u8 (x : Int), .int .u8 (Y : Int), .string s, .int .i64 (k : Int), .int .i64 (2 * (k : Int)), .int .i64 (2 * (k : Int) + 1), .int .u8 (d : Int), .int .u8 (y : Int), .int .u8 (X : Int), .pointer (some ⟨O, k, none⟩), v48, v49], []⟩ := by kernel_rfl
end Go.Proofs.YtffghlbgbfhfdaaGreatDoor.Hx

/- UnHex: the code's. -/
namespace Go.Proofs.YtffghlbgbfhfdaaGreatDoor.Hx
open Go.RowKit
/-- What a reader answers. -/
def RdP (L : List Nat) (E : Nat × Nat) (w : World) (e : Ending) (w' : World) : Prop :=
  Below w.heap.size w w' ∧ ∃ v, e = .returned (.tuple #[v, .int .i64 ((E.1 : Nat) : Int), .int .i64 ((E.2 : Nat) : Int)]) ∧
    if E.1 = 0 then w'.ownsRow w.heap.size 5 1 v L.length (bs L).toList else v = .slice none 0 0
/-- The store of a whole array, kept shut. -/
def storeR (ty : Nat) (p v : Value) : Sem Unit := Instr.storeAt ty p v
theorem to60s (p v : Value) : Instr.storeAt 58 p v = storeR 58 p v := rfl
theorem run_storeR60 (w : World) (g : Nat) (old l : List Nat) (hg : w.heap[g]? = some (.cells (bs old) 58 (0, 0))) (h1 : old.length = 256) (h2 : l.length = 256) : (storeR 58 (.pointer (some ⟨g, 0, none⟩)) (.agg (bs l))).run Tryz.prog w = .ok () (w.setRow g (bs l)) := by
  unfold storeR
  simp only [Instr.storeAt, Instr.sureAddr, Sem.run_bind, Sem.run_pure, Result.andThen_ok, run_storeVar_row w g 58 58 (bs old) (bs l) hg (by rw [size60, bs_size, h2]) (by rw [bs_size, bs_size, h1, h2]) (bs_one _)]
theorem own_row {w : World} {base g : Nat} {l : List Nat} (hb : base ≤ g) (hm : l.length ≤ maxLen) (h : w.heap[g]? = some (.cells (bs l) 5 (0, 0))) : w.ownsRow base 5 1 (.slice (some ⟨g, 0, none⟩) l.length l.length) l.length (bs l).toList :=
  ⟨by simp [bs], .inr ⟨g, l.length, bs l, rfl, hb, h, Nat.le_refl _, hm, by simp [bs], by rw [List.take_of_length_le (by simp [bs])]⟩⟩
/-- What lies there behind k rounds. -/
def partH (t : List Nat) (k : Nat) : List Nat := (List.range (t.length / 2)).map fun j => if j < k then (hexV t).getD j 0 else 0
theorem partH_len (t : List Nat) (k : Nat) : (partH t k).length = t.length / 2 := by simp [partH]
theorem partH_zero (t : List Nat) : partH t 0 = List.replicate (t.length / 2) 0 := by
  apply List.ext_getElem
  · simp [partH]
  · intro j h1 h2; simp [partH]
theorem partH_all (t : List Nat) : partH t (t.length / 2) = hexV t := by
  have hl := hexV_len _ t (Nat.le_refl _)
  apply List.ext_getElem
  · rw [partH_len, hl]
  · intro j h1 h2
    simp only [partH, List.getElem_map, List.getElem_range]
    rw [if_pos (by omega)]
    simp [List.getD, h2]
theorem partH_set (t : List Nat) (k : Nat) (hk : k < t.length / 2) : (partH t k).set k (kv D16 (t.getD (2 * k) 0) * 16 + kv D16 (t.getD (2 * k + 1) 0)) = partH t (k + 1) := by
  rw [← hexV_get _ t (Nat.le_refl _) k (by omega)]
  apply List.ext_getElem
  · rw [List.length_set, partH_len, partH_len]
  · intro j h1 h2
    rw [List.getElem_set]
    simp only [partH, List.getElem_map, List.getElem_range]
    split
    · rename_i he
      subst he
      rw [if_pos (by omega)]
    · by_cases hj : j < k
      · rw [if_pos hj, if_pos (by omega)]
      · rw [if_neg hj, if_neg (by omega)]
/-- What holds at each moment of a round: the table, the row ahead of the store and behind it. -/
structure RdS (s : ByteArray) (G O k X : Nat) (w wr : World) (b : Bool) (W : World) : Prop where
  kn : Kn D16 G W
  bel : Below w.heap.size w W
  row : W.heap[O]? = some (.cells (bs (partH (tl s) (if b = true then k + 1 else k))) 5 (0, 0))
theorem or16 (x y : Nat) (hx : x < 16) (hy : y < 16) : bits BinOp.or IntKind.u8 ((x * 16 : Nat) : Int) (y : Int) = ((x * 16 + y : Nat) : Int) := by
  rw [u8_or_nat (x * 16) y (by omega) (by omega)]
  congr 1
  rw [Nat.mul_comm, show (16 : Nat) = 2 ^ 4 by decide, Nat.two_pow_add_eq_or_of_lt (by omega)]
attribute [local go_sem ↓] to60s toMk
set_option maxRecDepth 100000 in
set_option maxHeartbeats 3200000 in
theorem unhex_any (s : ByteArray) (hs : s.size ≤ 281474976710656) (w : World) (ht : Tx w) : Calls Tryz.prog 13 #[.string s] w (RdP (hexV (tl s)) (hexE (tl s)) w) := by
  have hsz := ht.sz
  go_enter Tryz.func13, Tryz.ntmps13
  go_wp2_with fail
  refine (known16_any w ht).mono ?_
  rintro e W1 ⟨rfl, b1⟩
  have z1 := b1.size
  have hst := run_storeR60 (W1.alloc (.cells (bs Z256) 58)) W1.heap.size Z256 (KT D16 16) (heap_alloc_new _ _) Z256_len (KT_len _ _)
  rw [← zc60] at hst
  obtain ⟨W2, hW2⟩ : ∃ W, W = (W1.alloc (.cells Tryz.zeroCells58 58)).setRow W1.heap.size (bs (KT D16 16)) := ⟨_, rfl⟩
  have r2 : Hid (Kn D16 W1.heap.size W2) := by rw [hW2]; exact setRow_heap _ _ _ _ _ _ (heap_alloc_new _ _)
  have bel2 : Below w.heap.size w W2 := by rw [hW2]; exact below_setRow (b1.alloc z1 _) z1 _
  rw [← hW2] at hst
  clear hW2 b1
  go_wp2_with fail
  refine (first_any D16 s (by omega) W1.heap.size W2 r2).mono ?_
  rintro e W3 ⟨rfl, b3⟩
  have hg2 : W1.heap.size < W2.heap.size := (Array.getElem?_eq_some_iff.1 r2.out).1
  have r3 : Hid (Kn D16 W1.heap.size W3) := (b3.block _ hg2).trans r2.out
  have bel3 : Below w.heap.size w W3 := bel2.trans (b3.mono (by omega))
  have hg3 : W1.heap.size < W3.heap.size := (Array.getElem?_eq_some_iff.1 r3.out).1
  clear hst r2 bel2 b3 hg2
  revert r3 hg3 z1
  generalize W1.heap.size = G
  intro z1 r3 hg3
  obtain ⟨F, hF⟩ : ∃ F, F = fuL D16 (tl s) := ⟨_, rfl⟩
  have hFle : F ≤ s.size := by rw [hF]; exact Nat.le_trans (fuL_le _ _) (by rw [tl_len]; exact Nat.le_refl _)
  have hTl := tl_len s
  rw [← hF]
  by_cases hA : F < s.size
  · have hA' : (F : Int) < (s.size : Int) := by omega
    have hE : Hid (hexE (tl s) = (10, F)) := by show _ = _; unfold hexE; rw [if_pos (by omega), hF]
    clear hF hFle hTl
    go_wp2
    go_ret3
    refine ⟨bel3, .slice none 0 0, ?_, ?_⟩
    · rw [hE.out]; rfl
    · rw [hE.out]; rfl
  · have hA' : ¬ ((F : Int) < (s.size : Int)) := by omega
    have HF : Hid (¬ fuL D16 (tl s) < (tl s).length) := by show ¬ _; omega
    have HT : Hid ((tl s).length = s.size) := hTl
    clear hF hFle hTl
    by_cases hB : s.size % 2 = 0
    · have hB' : Int.tmod (s.size : Int) 2 = 0 := by rw [Int.tmod_eq_emod_of_nonneg (by omega)]; omega
      have hE : Hid (hexE (tl s) = (0, 0)) := by show _ = _; unfold hexE; rw [if_neg HF.out, if_pos (by rw [HT.out]; exact hB)]
      obtain ⟨n, hn⟩ : ∃ n, n = s.size / 2 := ⟨_, rfl⟩
      have hnI : (s.size : Int) / 2 = (n : Int) := by omega
      have hnT : Int.tdiv (s.size : Int) 2 = (n : Int) := by rw [Int.tdiv_eq_ediv_of_nonneg (by omega)]; exact hnI
      have hnW : IntKind.i64.wrap (n : Int) = (n : Int) := by rw [IntKind.wrap_i64]; omega
      have HN : Hid (n = (tl s).length / 2) := by show _ = _; rw [HT.out]; exact hn
      obtain ⟨w0, hmk, hrow0, belm⟩ := run_mkN W3 n (by omega)
      have z3 : W3.heap.size < w0.heap.size := (Array.getElem?_eq_some_iff.1 hrow0).1
      have rm : Hid (Kn D16 G w0) := (belm.block _ hg3).trans r3.out
      have ro : Hid (w0.heap[W3.heap.size]? = some (.cells (bs (partH (tl s) 0)) 5 (0, 0))) := by rw [partH_zero, ← HN.out]; exact hrow0
      have bm : Below w.heap.size w w0 := bel3.trans (belm.mono bel3.size)
      have hws : w.heap.size ≤ W3.heap.size := bel3.size
      have hn2 : 2 * n = s.size := by omega
      have HN2 : Hid (2 * n = s.size) := hn2
      clear hrow0 hn hn2 hB
      go_wp2_with fail
      clear r3 hmk belm bel3 hA hA' hB'
      have hGO : G < W3.heap.size := hg3
      have HWS : Hid (w.heap.size ≤ W3.heap.size) := hws
      revert hGO ro z3
      generalize W3.heap.size = O at *
      intro hGO ro z3
      go_loopw [29] (fun i wr => ∃ k : Nat, i = .int .i64 (k : Int) ∧ k ≤ n ∧ Hid (Kn D16 G wr) ∧ Hid (wr.heap[O]? = some (.cells (bs (partH (tl s) k)) 5 (0, 0))) ∧ Below w.heap.size w wr) (fun i _ => n - (intOf i).toNat)
      case atStart => exact ⟨0, rfl, by omega, rm, ro, bm⟩
      case round =>
        clear rm ro bm
        obtain ⟨k, rfl, hk, rm, ro, bel⟩ := hrel
        by_cases hlt : k < n
        · have hk0 : (0 : Int) ≤ (k : Int) := by omega
          have hk1 : (k : Int) < (n : Int) := by omega
          have hks : 2 * k + 1 < s.size := by have := HN2.out; omega
          have hs2 : (2 * (k : Int)) < (s.size : Int) := by omega
          have hix0 : ∀ W : World, (Instr.index 9 (.string s) (.int .i64 (2 * (k : Int)))).run Tryz.prog W = .ok (.int .u8 ((byt s (2 * k) : Nat) : Int)) W := fun W => by
            have := idx9 W s (2 * k) (by omega)
            rw [show ((2 * k : Nat) : Int) = 2 * (k : Int) by omega] at this
            exact this
          have hix1 : ∀ W : World, (Instr.index 9 (.string s) (.int .i64 (2 * (k : Int) + 1))).run Tryz.prog W = .ok (.int .u8 ((byt s (2 * k + 1) : Nat) : Int)) W := fun W => by
            have := idx9 W s (2 * k + 1) (by omega)
            rw [show ((2 * k + 1 : Nat) : Int) = 2 * (k : Int) + 1 by omega] at this
            exact this
          have hw2 : IntKind.i64.wrap (2 * (k : Int)) = 2 * (k : Int) := by rw [IntKind.wrap_i64]; omega
          have hw3 : IntKind.i64.wrap (2 * (k : Int) + 1) = 2 * (k : Int) + 1 := by rw [IntKind.wrap_i64]; omega
          obtain ⟨c, hc⟩ : ∃ c, c = byt s (2 * k) := ⟨_, rfl⟩
          obtain ⟨d, hd⟩ : ∃ d, d = byt s (2 * k + 1) := ⟨_, rfl⟩
          rw [← hc] at hix0
          rw [← hd] at hix1
          have hc256 : c < 256 := by rw [hc]; exact byt_lt _ _
          have hd256 : d < 256 := by rw [hd]; exact byt_lt _ _
          have kc : D16.idxOf c < D16.length := by
            have := fuL_all D16 (tl s) HF.out (2 * k) (by rw [HT.out]; omega)
            rw [tl_get s _ (by omega), ← hc] at this
            exact this
          have kd : D16.idxOf d < D16.length := by
            have := fuL_all D16 (tl s) HF.out (2 * k + 1) (by rw [HT.out]; omega)
            rw [tl_get s _ (by omega), ← hd] at this
            exact this
          obtain ⟨x, hx⟩ : ∃ x, x = kv D16 c := ⟨_, rfl⟩
          obtain ⟨y, hy⟩ : ∃ y, y = kv D16 d := ⟨_, rfl⟩
          have hx16 : x < 16 := by rw [hx]; exact kc
          have hy16 : y < 16 := by rw [hy]; exact kd
          have CX : Hid (∀ W : World, Kn D16 G W → Calls Tryz.prog 29 #[.pointer (some ⟨G, 0, none⟩), .int .u8 (c : Int)] W fun e w' => e = .returned (.int .u8 (x : Int)) ∧ w' = W) := fun W hK => by rw [hx]; exact value_any D16 (by decide) G c hc256 kc W hK
          have CY : Hid (∀ W : World, Kn D16 G W → Calls Tryz.prog 29 #[.pointer (some ⟨G, 0, none⟩), .int .u8 (d : Int)] W fun e w' => e = .returned (.int .u8 (y : Int)) ∧ w' = W) := fun W hK => by rw [hy]; exact value_any D16 (by decide) G d hd256 kd W hK
          have hsh : (x : Int) * 2 ^ 4 % 256 = ((x * 16 : Nat) : Int) := by omega
          have hsh' : (x : Int) * 16 % 256 = ((x * 16 : Nat) : Int) := by omega
          have hor := or16 x y hx16 hy16
          have hXe : Hid (x * 16 + y = kv D16 ((tl s).getD (2 * k) 0) * 16 + kv D16 ((tl s).getD (2 * k + 1) 0)) := by
            show _ = _
            rw [tl_get s _ (by omega), tl_get s _ (by omega), ← hc, ← hd, ← hx, ← hy]
          obtain ⟨X, hX⟩ : ∃ X, X = x * 16 + y := ⟨_, rfl⟩
          obtain ⟨Y, hY⟩ : ∃ Y, Y = x * 16 := ⟨_, rfl⟩
          rw [← hX] at hor hXe
          rw [← hY] at hor hsh hsh'
          have fa : wr.frozen? ⟨O, k, none⟩ = false := frozen_of_row wr _ k _ _ ro.out
          have hlen : (partH (tl s) k).length = n := by rw [partH_len, ← HN.out]
          have ca : wr.cell? ⟨O, k, none⟩ = some (.int .u8 (((partH (tl s) k).getD k 0 : Nat) : Int)) := by rw [cell_of_row wr _ _ _ _ _ ro.out, bs_get _ _ (by rw [hlen]; exact hlt)]
          have r1 : Hid ((wr.setCell ⟨O, k, none⟩ (.int .u8 (X : Int))).heap[O]? = some (.cells (bs (partH (tl s) (k + 1))) 5 (0, 0))) := by
            refine (heap_setCell_same _ _ _ _ _ _ ro.out).trans ?_
            rw [bs_set, hXe.out, partH_set (tl s) k (by rw [← HN.out]; exact hlt)]
          have rm1 : Hid (Kn D16 G (wr.setCell ⟨O, k, none⟩ (.int .u8 (X : Int)))) := (heap_setCell_other _ _ _ _ (by show G ≠ O; omega)).trans rm.out
          have bel1 : Below w.heap.size w (wr.setCell ⟨O, k, none⟩ (.int .u8 (X : Int))) := bel.setCell (by have := HWS.out; omega) _
          clear hc hd hx hy hX hY kc kd hlen
          have hshW : IntKind.u8.wrap ((x : Int) * 16) = (Y : Int) := by rw [wraps_u8 _ (by omega) (by omega)]; omega
          have CS1 : Hid (∀ b W, RdS s G O k X w wr b W → Calls Tryz.prog 29 #[.pointer (some ⟨G, 0, none⟩), .int .u8 (c : Int)] W fun e w' => e = .returned (.int .u8 (x : Int)) ∧ RdS s G O k X w wr b w') := fun b W hS => (CX.out W hS.kn).mono fun e w' ⟨h1, h2⟩ => ⟨h1, by rw [h2]; exact hS⟩
          have CS2 : Hid (∀ b W, RdS s G O k X w wr b W → Calls Tryz.prog 29 #[.pointer (some ⟨G, 0, none⟩), .int .u8 (d : Int)] W fun e w' => e = .returned (.int .u8 (y : Int)) ∧ RdS s G O k X w wr b w') := fun b W hS => (CY.out W hS.kn).mono fun e w' ⟨h1, h2⟩ => ⟨h1, by rw [h2]; exact hS⟩
          have S0 : Hid (RdS s G O k X w wr false wr.drew) := ⟨rm.out, bel.drew, ro.out⟩
          have SC : Hid (∀ W, RdS s G O k X w wr false W → ∃ v, W.cell? ⟨O, k, none⟩ = some v) := fun W hS => ⟨_, by rw [cell_of_row W _ _ _ _ _ hS.row, bs_get _ _ (by rw [partH_len, ← HN.out]; exact hlt)]⟩
          have SF : Hid (∀ W, RdS s G O k X w wr false W → W.frozen? ⟨O, k, none⟩ = false) := fun W hS => frozen_of_row W _ k _ _ hS.row
          have SX : Hid (∀ W, RdS s G O k X w wr false W → RdS s G O k X w wr true (W.setCell ⟨O, k, none⟩ (.int .u8 (X : Int)))) := fun W hS => by
            refine ⟨(heap_setCell_other _ _ _ _ (by show G ≠ O; omega)).trans hS.kn, hS.bel.setCell (by have := HWS.out; omega) _, ?_⟩
            have hr : W.heap[O]? = some (.cells (bs (partH (tl s) k)) 5 (0, 0)) := hS.row
            refine (heap_setCell_same _ _ _ _ _ _ hr).trans ?_
            rw [bs_set, hXe.out, partH_set (tl s) k (by rw [← HN.out]; exact hlt)]
            rfl
          clear CX CY fa ca r1 rm1 bel1 rm ro bel
          go_wp2_with fail
          rename_i Q1 K1 hK
          refine wp_region_vals (ops := reg11) (m := 16) (V := V11 s O n k c d x y X Y) (S := RdS s G O k X w wr) (by rw [reg11_size]; omega) (by kernel_rfl) (fun i o ho => (okR_at okR11 ho).1) (fun i j o oj d ho hj q1 q2 => (okR_at okR11 ho).2.2 j oj d hj q1 q2) (fun i o d ho q => (okR_at okR11 ho).2.1 d q)
            (step11 _ s O G n k c d x y X Y _ _ rfl rfl rfl rfl hw2 hw3 hix0 hix1 hshW hor hk0 hk1 CS1.out CS2.out SC.out SF.out SX.out) S0.out (fun w' hS => ?_)
          have HS' : Hid (RdS s G O k X w wr true w') := hS
          clear CS1 CS2 S0 SC SF SX hS
          show K1 _ w'
          rw [put11]
          refine hK _ _ ?_
          go_wp2
          go_roundw
          case rel => exact ⟨k + 1, by go_num, by omega, HS'.out.kn, HS'.out.row, HS'.out.bel⟩
          case measure => simp [intOf]; omega
        · have hk1 : ¬ ((k : Int) < (n : Int)) := by omega
          have hke : k = n := by omega
          subst hke
          have ro' := ro.out
          rw [HN.out, partH_all] at ro'
          have hL : (hexV (tl s)).length = k := by rw [hexV_len _ _ (Nat.le_refl _), ← HN.out]
          have hO := own_row HWS.out (by rw [hL]; unfold maxLen; omega) ro'
          rw [hL] at hO
          have HO : Hid (wr.ownsRow w.heap.size 5 1 (.slice (some ⟨O, 0, none⟩) k k) (hexV (tl s)).length (bs (hexV (tl s))).toList) := by rw [hL]; exact hO
          clear hO ro' hL
          go_wp2
          go_ret3
          refine ⟨bel, .slice (some ⟨O, 0, none⟩) k k, ?_, ?_⟩
          · rw [hE.out]; rfl
          · rw [hE.out]; exact HO.out
    · have hB' : Int.tmod (s.size : Int) 2 = 1 := by rw [Int.tmod_eq_emod_of_nonneg (by omega)]; omega
      have hE : Hid (hexE (tl s) = (3, s.size)) := by show _ = _; unfold hexE; rw [if_neg HF.out, if_neg (by rw [HT.out]; exact hB), HT.out]
      go_wp2
      go_ret3
      refine ⟨bel3, .slice none 0 0, ?_, ?_⟩
      · rw [hE.out]; rfl
      · rw [hE.out]; rfl
end Go.Proofs.YtffghlbgbfhfdaaGreatDoor.Hx
