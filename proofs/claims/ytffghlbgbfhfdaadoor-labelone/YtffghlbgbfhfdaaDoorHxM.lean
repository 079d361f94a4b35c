/- The readers of the three bases: lists of digits. -/
import Derived.Test.YtffghlbgbfhfdaaDoorHxN
namespace Go.Proofs.YtffghlbgbfhfdaaDoor.Hx
/-- A digit's value. -/
def kv (D : List Nat) (c : Nat) : Nat := D.idxOf c
def isD (D : List Nat) (c : Nat) : Bool := decide (D.idxOf c < D.length)
/-- The place of the first byte that is no digit. -/
def fuL (D : List Nat) (t : List Nat) : Nat := t.findIdx (fun c => !isD D c)
theorem fuL_le (D t : List Nat) : fuL D t ≤ t.length := List.findIdx_le_length
theorem fuL_all (D t : List Nat) (h : ¬ fuL D t < t.length) (j : Nat) (hj : j < t.length) : D.idxOf (t.getD j 0) < D.length := by
  have h1 : fuL D t = t.length := by have := fuL_le D t; omega
  have h2 := List.findIdx_eq_length.1 h1 (t[j]'hj) (List.getElem_mem hj)
  have e : t.getD j 0 = t[j]'hj := by simp [List.getD, hj]
  rw [e]
  simpa [isD] using h2
theorem fuL_none (D t : List Nat) (h : ∀ c ∈ t, D.idxOf c < D.length) : fuL D t = t.length :=
  List.findIdx_eq_length.2 (fun c hc => by simpa [isD] using h c hc)
theorem idx_inv (D : List Nat) (c : Nat) (h : D.idxOf c < D.length) : D.getD (D.idxOf c) 0 = c := by
  have : D[D.idxOf c]'h = c := List.getElem_idxOf h
  simp [List.getD, h, this]
theorem kv_g16 : ∀ v : Fin 16, D16.idxOf (g16 v.val) = v.val := by decide +kernel
theorem kv_g32 : ∀ v : Fin 32, D32.idxOf (g32 v.val) = v.val := by decide +kernel
theorem kv_g64 : ∀ v : Fin 64, D64.idxOf (g64 v.val) = v.val := by decide +kernel
theorem g64_ne : ∀ v : Fin 64, ¬ g64 v.val = 61 := by decide +kernel
theorem n64_fill : ¬ D64.idxOf 61 < D64.length := by decide +kernel
/- Base 16 read. -/
def hexV : List Nat → List Nat
  | a :: b :: r => (kv D16 a * 16 + kv D16 b) :: hexV r
  | _ => []
def hexE (t : List Nat) : Nat × Nat := if fuL D16 t < t.length then (10, fuL D16 t) else if t.length % 2 = 0 then (0, 0) else (3, t.length)
theorem hexV_len : ∀ (n : Nat) (t : List Nat), t.length ≤ n → (hexV t).length = t.length / 2
  | _, [], _ => rfl
  | _, [a], _ => by simp [hexV]
  | 0, a :: b :: r, h => by simp at h
  | n + 1, a :: b :: r, h => by
    have := hexV_len n r (by simp at h; omega)
    simp only [hexV, List.length_cons, this]
    omega
theorem hexV_get : ∀ (n : Nat) (t : List Nat), t.length ≤ n → ∀ i, 2 * i + 1 < t.length → (hexV t).getD i 0 = kv D16 (t.getD (2 * i) 0) * 16 + kv D16 (t.getD (2 * i + 1) 0)
  | _, [], _, i, h => by simp at h
  | _, [a], _, i, h => by simp at h
  | 0, a :: b :: r, h, _, _ => by simp at h
  | n + 1, a :: b :: r, h, 0, _ => by simp [hexV, List.getD]
  | n + 1, a :: b :: r, h, i + 1, hi => by
    have := hexV_get n r (by simp at h; omega) i (by simp at hi; omega)
    rw [show 2 * (i + 1) = 2 * i + 1 + 1 by omega, show 2 * i + 1 + 1 + 1 = (2 * i + 1) + 1 + 1 by omega]
    simp only [hexV, List.getD_cons_succ]
    exact this
theorem hexL_hexV : ∀ (n : Nat) (t : List Nat), t.length ≤ n → t.length % 2 = 0 → (∀ c ∈ t, D16.idxOf c < 16) → hexL (hexV t) = t
  | _, [], _, _, _ => rfl
  | _, [a], _, h, _ => by simp at h
  | 0, a :: b :: r, h, _, _ => by simp at h
  | n + 1, a :: b :: r, h, h2, hd => by
    have ha := hd a (by simp)
    have hb := hd b (by simp)
    have hr := hexL_hexV n r (by simp at h; omega) (by simp at h2; omega) (fun c hc => hd c (by simp [hc]))
    simp only [hexV, hexL, hr]
    have e1 : (kv D16 a * 16 + kv D16 b) / 16 = kv D16 a := by unfold kv; omega
    have e2 : (kv D16 a * 16 + kv D16 b) % 16 = kv D16 b := by unfold kv; omega
    rw [e1, e2]
    have i1 := idx_inv D16 a ha
    have i2 := idx_inv D16 b hb
    unfold g16 kv
    rw [i1, i2]
theorem hexV_hexL : ∀ l : List Nat, (∀ x ∈ l, x < 256) → hexV (hexL l) = l
  | [], _ => rfl
  | x :: r, h => by
    have hx := h x (by simp)
    have hr := hexV_hexL r (fun y hy => h y (by simp [hy]))
    simp only [hexL, hexV, hr]
    have e1 : kv D16 (g16 (x / 16)) = x / 16 := kv_g16 ⟨x / 16, by omega⟩
    have e2 : kv D16 (g16 (x % 16)) = x % 16 := kv_g16 ⟨x % 16, by omega⟩
    rw [e1, e2]
    congr 1
    omega
theorem hexL_known : ∀ l : List Nat, (∀ x ∈ l, x < 256) → ∀ c ∈ hexL l, D16.idxOf c < 16
  | [], _, c, hc => by simp [hexL] at hc
  | x :: r, h, c, hc => by
    have hx := h x (by simp)
    simp only [hexL, List.mem_cons] at hc
    rcases hc with rfl | rfl | hc
    · rw [kv_g16 ⟨x / 16, by omega⟩]; simp only; omega
    · rw [kv_g16 ⟨x % 16, by omega⟩]; simp only; omega
    · exact hexL_known r (fun y hy => h y (by simp [hy])) c hc
theorem hexE_ok {t : List Nat} (h : (hexE t).1 = 0) : hexE t = (0, 0) ∧ t.length % 2 = 0 ∧ ∀ c ∈ t, D16.idxOf c < 16 := by
  unfold hexE at h ⊢
  by_cases h1 : fuL D16 t < t.length
  · simp [h1] at h
  · by_cases h2 : t.length % 2 = 0
    · rw [if_neg h1, if_pos h2]
      refine ⟨rfl, h2, fun c hc => ?_⟩
      obtain ⟨j, hj, rfl⟩ := List.mem_iff_getElem.1 hc
      have := fuL_all D16 t h1 j hj
      simpa [List.getD, hj, D16] using this
    · simp [h1, h2] at h
theorem hex_canon {t : List Nat} (h : (hexE t).1 = 0) : hexL (hexV t) = t := hexL_hexV _ t (Nat.le_refl _) (hexE_ok h).2.1 (hexE_ok h).2.2
theorem hexE_back (l : List Nat) (hb : ∀ x ∈ l, x < 256) : hexE (hexL l) = (0, 0) := by
  unfold hexE
  rw [if_neg (by rw [fuL_none D16 _ (fun c hc => hexL_known l hb c hc)]; omega), if_pos (by rw [hexL_len]; omega)]
theorem hexV_byt {t : List Nat} (h : (hexE t).1 = 0) : ∀ x ∈ hexV t, x < 256 := by
  have hk := (hexE_ok h).2.2
  have : ∀ (n : Nat) (t : List Nat), t.length ≤ n → (∀ c ∈ t, D16.idxOf c < 16) → ∀ x ∈ hexV t, x < 256 := by
    intro n
    induction n with
    | zero => intro t ht _ x hx; match t, ht with | [], _ => simp [hexV] at hx
    | succ n ih =>
      intro t ht hk x hx
      match t, ht with
      | [], _ => simp [hexV] at hx
      | [a], _ => simp [hexV] at hx
      | a :: b :: r, ht =>
        have ha := hk a (by simp)
        have hb := hk b (by simp)
        simp only [hexV, List.mem_cons] at hx
        rcases hx with rfl | hx
        · unfold kv; omega
        · exact ih r (by simp at ht; omega) (fun c hc => hk c (by simp [hc])) x hx
  exact this _ t (Nat.le_refl _) hk
/- Base 32 read. -/
def dvL (t : List Nat) (i : Nat) : Nat := kv D32 (t.getD (t.length - 1 - i) 0)
def numL (t : List Nat) : Nat := dsum (dvL t) t.length
def spL (t : List Nat) : Nat := 5 * t.length - 8 * (5 * t.length / 8)
def v32V (t : List Nat) : List Nat := byts (numL t) (5 * t.length / 8)
def v32E (t : List Nat) : Nat × Nat :=
  if fuL D32 t < t.length then (10, fuL D32 t) else if 5 ≤ spL t then (3, t.length) else if 0 < spL t ∧ ¬ kv D32 (t.getD 0 0) / 2 ^ (5 - spL t) = 0 then (11, 0) else (0, 0)
theorem v32E_ok {t : List Nat} (h : (v32E t).1 = 0) : v32E t = (0, 0) ∧ ¬ fuL D32 t < t.length ∧ spL t < 5 ∧ (0 < spL t → kv D32 (t.getD 0 0) / 2 ^ (5 - spL t) = 0) := by
  unfold v32E at h ⊢
  by_cases h1 : fuL D32 t < t.length
  · simp [h1] at h
  · by_cases h2 : 5 ≤ spL t
    · simp [h1, h2] at h
    · by_cases h3 : 0 < spL t ∧ ¬ kv D32 (t.getD 0 0) / 2 ^ (5 - spL t) = 0
      · rw [if_neg h1, if_neg h2, if_pos h3] at h; exact absurd h (by decide)
      · rw [if_neg h1, if_neg h2, if_neg h3]
        refine ⟨rfl, h1, by omega, fun h4 => ?_⟩
        by_cases h5 : kv D32 (t.getD 0 0) / 2 ^ (5 - spL t) = 0
        · exact h5
        · exact absurd ⟨h4, h5⟩ h3
theorem dvL_lt {t : List Nat} (h : ¬ fuL D32 t < t.length) (i : Nat) (hi : i < t.length) : dvL t i < 32 := fuL_all D32 t h (t.length - 1 - i) (by omega)
theorem dsum_digit (f : Nat → Nat) (n : Nat) (hf : ∀ i, i < n → f i < 32) : ∀ k, k ≤ n → ∀ i, i < k → dsum f k / 32 ^ i % 32 = f i
  | 0, _, i, hi => by omega
  | k + 1, hk, i, hi => by
    rw [dsum]
    by_cases he : i = k
    · subst he
      have h1 := dsum_lt f n hf i (by omega)
      rw [Nat.add_mul_div_right _ _ (Nat.pow_pos (by decide)), Nat.div_eq_of_lt h1, Nat.zero_add, Nat.mod_eq_of_lt (hf i (by omega))]
    · have ih := dsum_digit f n hf k (by omega) i (by omega)
      have e : f k * 32 ^ k = (f k * 32 ^ (k - i - 1) * 32) * 32 ^ i := by
        rw [Nat.mul_assoc, Nat.mul_assoc, ← Nat.pow_succ', ← Nat.pow_add]
        congr 2
        omega
      rw [e, Nat.add_mul_div_right _ _ (Nat.pow_pos (by decide)), Nat.add_mul_mod_self_right, ih]
theorem num_byts (N : Nat) : ∀ n, N < 256 ^ n → num (byts N n) = N := by
  have key : ∀ n N, num (byts N n) = N % 256 ^ n := by
    intro n
    induction n with
    | zero => intro N; simp [byts, num, Nat.mod_one]
    | succ n ih =>
      intro N
      have : byts N (n + 1) = N % 256 :: byts (N / 256) n := by
        apply List.ext_getElem
        · simp [byts]
        · intro j h1 h2
          cases j with
          | zero => simp [byts]
          | succ j =>
            simp only [byts, List.getElem_map, List.getElem_range, List.getElem_cons_succ]
            rw [Nat.div_div_eq_div_mul, Nat.pow_succ, Nat.mul_comm 256]
      rw [this, num, ih, Nat.pow_succ, Nat.mul_comm (256 ^ n) 256, Nat.mod_mul]
  intro n hN
  rw [key, Nat.mod_eq_of_lt hN]
theorem byts_byt (N n : Nat) : ∀ x ∈ byts N n, x < 256 := by
  intro x hx
  obtain ⟨j, _, rfl⟩ := List.mem_map.1 hx
  exact Nat.mod_lt _ (by decide)
theorem numL_lt {t : List Nat} (h : (v32E t).1 = 0) : numL t < 256 ^ (5 * t.length / 8) := by
  obtain ⟨_, h1, h2, h3⟩ := v32E_ok h
  have hlt := fun i hi => dvL_lt h1 i hi
  have e256 : (256 : Nat) ^ (5 * t.length / 8) = 2 ^ (5 * t.length - spL t) := by
    rw [show (256 : Nat) = 2 ^ 8 by decide, ← Nat.pow_mul]
    congr 1
    unfold spL
    omega
  have e32 : ∀ k, (32 : Nat) ^ k = 2 ^ (5 * k) := fun k => by rw [show (32 : Nat) = 2 ^ 5 by decide, ← Nat.pow_mul]
  rw [e256]
  unfold numL
  by_cases hs : spL t = 0
  · rw [hs, Nat.sub_zero, ← e32]
    exact dsum_lt _ t.length hlt _ (Nat.le_refl _)
  · have hpos : 0 < t.length := by unfold spL at hs; omega
    obtain ⟨k, hk⟩ : ∃ k, t.length = k + 1 := ⟨t.length - 1, by omega⟩
    have h4 := h3 (by omega)
    have h5 : dvL t k < 2 ^ (5 - spL t) := by
      have : dvL t k = kv D32 (t.getD 0 0) := by unfold dvL; rw [hk, show k + 1 - 1 - k = 0 by omega]
      rw [this]
      exact Nat.lt_of_div_eq_zero (Nat.pow_pos (by decide)) h4
    rw [hk, dsum]
    have h6 := dsum_lt (dvL t) t.length hlt k (by omega)
    have h7 : (dvL t k + 1) * 32 ^ k ≤ 2 ^ (5 - spL t) * 32 ^ k := Nat.mul_le_mul_right _ h5
    rw [Nat.add_mul, Nat.one_mul] at h7
    have h8 : 2 ^ (5 - spL t) * 32 ^ k = 2 ^ (5 * (k + 1) - spL t) := by
      rw [e32, ← Nat.pow_add]
      congr 1
      omega
    omega
theorem b32_canon {t : List Nat} (h : (v32E t).1 = 0) : b32L (v32V t) = t := by
  obtain ⟨_, h1, h2, h3⟩ := v32E_ok h
  have hlt := fun i hi => dvL_lt h1 i hi
  have hlen : n32 (v32V t).length = t.length := by
    unfold v32V n32
    rw [byts_len]
    unfold spL at h2
    omega
  apply List.ext_getElem
  · rw [b32L_len, hlen]
  · intro j hj1 hj2
    simp only [b32L, List.getElem_map, List.getElem_range]
    rw [hlen]
    unfold v32V
    rw [v32_num _ (byts_byt _ _)]
    rw [num_byts _ _ (numL_lt h)]
    unfold numL
    rw [dsum_digit _ t.length hlt _ (Nat.le_refl _) _ (by omega)]
    unfold dvL g32 kv
    have e : t.length - 1 - (t.length - 1 - j) = j := by omega
    rw [e, idx_inv D32 _ (fuL_all D32 t h1 j hj2)]
    simp [List.getD, hj2]
theorem v32_lt (l : List Nat) (i : Nat) : v32 l i < 32 := d32_lt _ _ _
theorem b32L_get (l : List Nat) (j : Nat) (hj : j < n32 l.length) : (b32L l).getD j 0 = g32 (v32 l (n32 l.length - 1 - j)) := by
  simp [b32L, List.getD, hj]
theorem b32_back (l : List Nat) (hb : ∀ x ∈ l, x < 256) : v32E (b32L l) = (0, 0) ∧ v32V (b32L l) = l := by
  have hL := b32L_len l
  have hn : 5 * n32 l.length / 8 = l.length := by unfold n32; omega
  have hk : ¬ fuL D32 (b32L l) < (b32L l).length := by
    rw [fuL_none D32 _ (fun c hc => ?_)]
    · omega
    · obtain ⟨j, hj, rfl⟩ := List.mem_map.1 hc
      rw [kv_g32 ⟨_, v32_lt l _⟩]
      exact v32_lt l _
  have hdv : ∀ i, i < n32 l.length → dvL (b32L l) i = num l / 32 ^ i % 32 := by
    intro i hi
    unfold dvL kv
    rw [hL, b32L_get l _ (by omega), kv_g32 ⟨_, v32_lt l _⟩]
    simp only
    rw [show n32 l.length - 1 - (n32 l.length - 1 - i) = i by omega, v32_num l hb]
  have hN : numL (b32L l) = num l := by
    unfold numL
    rw [hL, dsum_mod (num l) _ _ hdv _ (Nat.le_refl _), Nat.mod_eq_of_lt]
    refine Nat.lt_of_lt_of_le (num_lt l hb) ?_
    rw [show (256 : Nat) = 2 ^ 8 by decide, show (32 : Nat) = 2 ^ 5 by decide, ← Nat.pow_mul, ← Nat.pow_mul]
    exact Nat.pow_le_pow_right (by decide) (by unfold n32; omega)
  refine ⟨?_, ?_⟩
  · unfold v32E
    have hs : spL (b32L l) = 5 * n32 l.length - 8 * l.length := by unfold spL; rw [hL, hn]
    have hs5 : spL (b32L l) < 5 := by rw [hs]; unfold n32; omega
    rw [if_neg hk, if_neg (by omega), if_neg]
    rintro ⟨h1, h2⟩
    apply h2
    have hpos : 0 < n32 l.length := by omega
    have e0 : kv D32 ((b32L l).getD 0 0) = num l / 32 ^ (n32 l.length - 1) % 32 := by
      have := hdv (n32 l.length - 1) (by omega)
      unfold dvL at this
      rw [hL, show n32 l.length - 1 - (n32 l.length - 1) = 0 by omega] at this
      exact this
    rw [e0]
    apply Nat.div_eq_of_lt
    refine Nat.lt_of_le_of_lt (Nat.mod_le _ _) ?_
    rw [Nat.div_lt_iff_lt_mul (Nat.pow_pos (by decide))]
    refine Nat.lt_of_lt_of_le (num_lt l hb) ?_
    rw [show (256 : Nat) = 2 ^ 8 by decide, show (32 : Nat) = 2 ^ 5 by decide, ← Nat.pow_mul, ← Nat.pow_mul, ← Nat.pow_add]
    exact Nat.pow_le_pow_right (by decide) (by omega)
  · unfold v32V
    rw [hN, hL, hn]
    exact byts_num l hb
end Go.Proofs.YtffghlbgbfhfdaaDoor.Hx
