/- Base 64 read: lists of digits. -/
import Derived.Test.YtkppejaigodgiabDoorRdM
namespace Go.Proofs.YtkppejaigodgiabDoor
def step64 (x : List Nat × Nat × Nat) (v : Nat) : List Nat × Nat × Nat :=
  if 8 ≤ x.2.2 + 6 then (x.1 ++ [(x.2.1 * 64 + v) / 2 ^ (x.2.2 + 6 - 8) % 256], (x.2.1 * 64 + v) % 2 ^ (x.2.2 + 6 - 8), x.2.2 + 6 - 8) else (x.1, x.2.1 * 64 + v, x.2.2 + 6)
def s64 (d : List Nat) (k : Nat) : List Nat × Nat × Nat := ((d.take k).map (kv D64)).foldl step64 ([], 0, 0)
theorem s64_step (d : List Nat) (k : Nat) (h : k < d.length) : s64 d (k + 1) = step64 (s64 d k) (kv D64 (d.getD k 0)) := by
  unfold s64
  rw [List.take_succ_eq_append_getElem h, List.map_append, List.foldl_append]
  simp [List.getD, h]
theorem s64_inv (d : List Nat) (hk : ∀ j, j < d.length → D64.idxOf (d.getD j 0) < 64) : ∀ k, k ≤ d.length → (s64 d k).2.2 = 6 * k % 8 ∧ (s64 d k).2.1 < 2 ^ (6 * k % 8) ∧ (s64 d k).1.length = 6 * k / 8
  | 0, _ => by simp [s64]
  | k + 1, h => by
    obtain ⟨h1, h2, h3⟩ := s64_inv d hk k (by omega)
    have hv := hk k (by omega)
    rw [s64_step d k (by omega)]
    unfold step64
    rw [h1]
    generalize (s64 d k).2.1 = x at *
    unfold kv
    generalize D64.idxOf (d.getD k 0) = v at *
    by_cases h8 : 8 ≤ 6 * k % 8 + 6
    · rw [if_pos h8]
      refine ⟨by simp only; omega, ?_, by simp [h3]; omega⟩
      simp only
      rw [show 6 * k % 8 + 6 - 8 = 6 * (k + 1) % 8 by omega]
      exact Nat.mod_lt _ (Nat.pow_pos (by decide))
    · rw [if_neg h8]
      have h0 : 6 * k % 8 = 0 := by omega
      rw [h0] at h2
      refine ⟨by simp only; omega, ?_, by simp only [h3]; omega⟩
      simp only
      rw [show 6 * (k + 1) % 8 = 6 by omega]
      have : x = 0 := by simpa using h2
      omega
/-- What the digits come to: the bytes, and what is held at the end. -/
def x64 : List Nat → List Nat × Nat
  | a :: b :: c :: e :: r => ((kv D64 a * 4 + kv D64 b / 16) :: (kv D64 b % 16 * 16 + kv D64 c / 4) :: (kv D64 c % 4 * 64 + kv D64 e) :: (x64 r).1, (x64 r).2)
  | [a, b, c] => ([kv D64 a * 4 + kv D64 b / 16, kv D64 b % 16 * 16 + kv D64 c / 4], kv D64 c % 4)
  | [a, b] => ([kv D64 a * 4 + kv D64 b / 16], kv D64 b % 16)
  | [a] => ([], kv D64 a)
  | [] => ([], 0)
theorem fold_x64 : ∀ (n : Nat) (d : List Nat), d.length ≤ n → (∀ c ∈ d, D64.idxOf c < 64) → ∀ o, ∃ b, (d.map (kv D64)).foldl step64 (o, 0, 0) = (o ++ (x64 d).1, (x64 d).2, b)
  | _, [], _, _, o => ⟨0, by simp [x64]⟩
  | _, [a], _, hk, o => ⟨6, by simp [x64, step64]⟩
  | _, [a, b], _, hk, o => by
    have ha := hk a (by simp)
    have hb := hk b (by simp)
    refine ⟨4, ?_⟩
    simp only [List.map_cons, List.map_nil, List.foldl_cons, List.foldl_nil, step64, x64]
    unfold kv
    generalize D64.idxOf a = x at *
    generalize D64.idxOf b = y at *
    simp only [Nat.reduceAdd, Nat.reduceLeDiff, if_true, if_false, Nat.reduceSub, Nat.reducePow, Nat.zero_mul, Nat.zero_add, Prod.mk.injEq, List.append_cancel_left_eq, List.cons.injEq, and_true]
    omega
  | _, [a, b, c], _, hk, o => by
    have ha := hk a (by simp)
    have hb := hk b (by simp)
    have hc := hk c (by simp)
    refine ⟨2, ?_⟩
    simp only [List.map_cons, List.map_nil, List.foldl_cons, List.foldl_nil, step64, x64]
    unfold kv
    generalize D64.idxOf a = x at *
    generalize D64.idxOf b = y at *
    generalize D64.idxOf c = z at *
    simp only [Nat.reduceAdd, Nat.reduceLeDiff, if_true, if_false, Nat.reduceSub, Nat.reducePow, Nat.zero_mul, Nat.zero_add, Prod.mk.injEq, List.append_assoc, List.cons_append, List.nil_append, List.append_cancel_left_eq, List.cons.injEq, and_true]
    omega
  | 0, a :: b :: c :: e :: r, h, _, _ => by simp at h
  | n + 1, a :: b :: c :: e :: r, h, hk, o => by
    have ha := hk a (by simp)
    have hb := hk b (by simp)
    have hc := hk c (by simp)
    have he := hk e (by simp)
    obtain ⟨q, hq⟩ := fold_x64 n r (by simp at h; omega) (fun c hc => hk c (by simp [hc])) (o ++ [kv D64 a * 4 + kv D64 b / 16, kv D64 b % 16 * 16 + kv D64 c / 4, kv D64 c % 4 * 64 + kv D64 e])
    refine ⟨q, ?_⟩
    have e4 : step64 (step64 (step64 (step64 (o, 0, 0) (kv D64 a)) (kv D64 b)) (kv D64 c)) (kv D64 e) = (o ++ [kv D64 a * 4 + kv D64 b / 16, kv D64 b % 16 * 16 + kv D64 c / 4, kv D64 c % 4 * 64 + kv D64 e], 0, 0) := by
      unfold kv step64
      generalize D64.idxOf a = x at *
      generalize D64.idxOf b = y at *
      generalize D64.idxOf c = z at *
      generalize D64.idxOf e = u at *
      simp only [Nat.reduceAdd, Nat.reduceLeDiff, if_true, if_false, Nat.reduceSub, Nat.reducePow, Nat.zero_mul, Nat.zero_add, Prod.mk.injEq, List.append_assoc, List.cons_append, List.nil_append, List.append_cancel_left_eq, List.cons.injEq, and_true]
      omega
    simp only [List.map_cons, List.foldl_cons]
    rw [e4, hq, x64]
    simp
theorem s64_all (d : List Nat) (hk : ∀ c ∈ d, D64.idxOf c < 64) : (s64 d d.length).1 = (x64 d).1 ∧ (s64 d d.length).2.1 = (x64 d).2 := by
  obtain ⟨b, hb⟩ := fold_x64 d.length d (Nat.le_refl _) hk []
  unfold s64
  rw [List.take_of_length_le (Nat.le_refl _), hb]
  simp
theorem g_kv (c : Nat) (h : D64.idxOf c < 64) : g64 (kv D64 c) = c := idx_inv D64 c h
theorem b64L_x64 : ∀ (n : Nat) (d : List Nat), d.length ≤ n → (∀ c ∈ d, D64.idxOf c < 64) → (x64 d).2 = 0 → ¬ d.length % 4 = 1 → b64L (x64 d).1 = d ++ List.replicate ((4 - d.length % 4) % 4) 61
  | _, [], _, _, _, _ => by simp [x64, b64L]
  | _, [a], _, _, _, h => by simp at h
  | _, [a, b], _, hk, h0, _ => by
    have ha := hk a (by simp)
    have hb := hk b (by simp)
    have ga := g_kv a ha
    have gb := g_kv b hb
    have h0' : kv D64 b % 16 = 0 := h0
    have hb' : kv D64 b < 64 := hb
    simp only [x64, b64L, ch64]
    rw [show (kv D64 a * 4 + kv D64 b / 16) / 4 = kv D64 a by omega, show (kv D64 a * 4 + kv D64 b / 16) % 4 * 16 + 0 / 16 = kv D64 b by omega, ga, gb]
    rfl
  | _, [a, b, c], _, hk, h0, _ => by
    have ha := hk a (by simp)
    have hb := hk b (by simp)
    have hc := hk c (by simp)
    have ga := g_kv a ha
    have gb := g_kv b hb
    have gc := g_kv c hc
    have h0' : kv D64 c % 4 = 0 := h0
    have hb' : kv D64 b < 64 := hb
    have hc' : kv D64 c < 64 := hc
    simp only [x64, b64L, ch64]
    rw [show (kv D64 a * 4 + kv D64 b / 16) / 4 = kv D64 a by omega, show (kv D64 a * 4 + kv D64 b / 16) % 4 * 16 + (kv D64 b % 16 * 16 + kv D64 c / 4) / 16 = kv D64 b by omega, show (kv D64 b % 16 * 16 + kv D64 c / 4) % 16 * 4 + 0 / 64 = kv D64 c by omega, ga, gb, gc]
    rfl
  | 0, a :: b :: c :: e :: r, h, _, _, _ => by simp at h
  | n + 1, a :: b :: c :: e :: r, h, hk, h0, h1 => by
    have ga := g_kv a (hk a (by simp))
    have gb := g_kv b (hk b (by simp))
    have gc := g_kv c (hk c (by simp))
    have ge := g_kv e (hk e (by simp))
    have hb' : kv D64 b < 64 := hk b (by simp)
    have hc' : kv D64 c < 64 := hk c (by simp)
    have he' : kv D64 e < 64 := hk e (by simp)
    have ih := b64L_x64 n r (by simp at h; omega) (fun c hc => hk c (by simp [hc])) h0 (by simp at h1; omega)
    simp only [x64, b64L, ih, ch64]
    rw [show (kv D64 a * 4 + kv D64 b / 16) / 4 = kv D64 a by omega, show (kv D64 a * 4 + kv D64 b / 16) % 4 * 16 + (kv D64 b % 16 * 16 + kv D64 c / 4) / 16 = kv D64 b by omega, show (kv D64 b % 16 * 16 + kv D64 c / 4) % 16 * 4 + (kv D64 c % 4 * 64 + kv D64 e) / 64 = kv D64 c by omega, show (kv D64 c % 4 * 64 + kv D64 e) % 64 = kv D64 e by omega, ga, gb, gc, ge]
    simp only [List.length_cons, if_true, Nat.le_refl, show (2 ≤ 3) = True by simp]
    rw [show (r.length + 1 + 1 + 1 + 1) % 4 = r.length % 4 by omega]
    rfl
/-- Without the fill. -/
def nf1 (t : List Nat) : List Nat := if 0 < t.length ∧ t.getD (t.length - 1) 0 = 61 then t.take (t.length - 1) else t
def noFill (t : List Nat) : List Nat := nf1 (nf1 t)
theorem nf1_form (t : List Nat) : (nf1 t = t ∨ t = nf1 t ++ [61]) := by
  unfold nf1
  by_cases h : 0 < t.length ∧ t.getD (t.length - 1) 0 = 61
  · rw [if_pos h]
    right
    have := List.take_succ_eq_append_getElem (show t.length - 1 < t.length by omega)
    rw [show t.length - 1 + 1 = t.length by omega, List.take_of_length_le (Nat.le_refl _)] at this
    rw [this]
    have e : t[t.length - 1]'(by omega) = 61 := by
      have := h.2
      simpa [List.getD, show t.length - 1 < t.length by omega] using this
    rw [e]
    simp
  · rw [if_neg h]; exact .inl rfl
theorem noFill_form (t : List Nat) : ∃ f, f ≤ 2 ∧ t = noFill t ++ List.replicate f 61 := by
  unfold noFill
  rcases nf1_form t with h | h
  · rcases nf1_form (nf1 t) with k | k
    · exact ⟨0, by omega, by rw [k, h]; simp⟩
    · refine ⟨1, by omega, ?_⟩
      conv => lhs; rw [← h, k]
      simp
  · rcases nf1_form (nf1 t) with k | k
    · exact ⟨1, by omega, by rw [k]; exact h⟩
    · refine ⟨2, by omega, ?_⟩
      conv => lhs; rw [h, k]
      simp [List.replicate]
theorem nf1_snoc (t : List Nat) : nf1 (t ++ [61]) = t := by
  unfold nf1
  rw [if_pos (by simp [List.getD])]
  simp
theorem nf1_keep (t : List Nat) (h : ∀ c ∈ t, ¬ c = 61) : nf1 t = t := by
  unfold nf1
  rw [if_neg]
  rintro ⟨h1, h2⟩
  refine h (t[t.length - 1]'(by omega)) (List.getElem_mem _) ?_
  simpa [List.getD, show t.length - 1 < t.length by omega] using h2
theorem noFill_app (d : List Nat) (h : ∀ c ∈ d, ¬ c = 61) (f : Nat) (hf : f ≤ 2) : noFill (d ++ List.replicate f 61) = d := by
  unfold noFill
  match f, hf with
  | 0, _ => simp [nf1_keep d h]
  | 1, _ => simp only [List.replicate]; rw [nf1_snoc, nf1_keep d h]
  | 2, _ => rw [show d ++ List.replicate 2 61 = (d ++ [61]) ++ [61] by simp [List.replicate], nf1_snoc, nf1_snoc]
def v64V (t : List Nat) : List Nat := (s64 (noFill t) (noFill t).length).1
def v64H (t : List Nat) : Nat := (s64 (noFill t) (noFill t).length).2.1
def v64E (t : List Nat) : Nat × Nat :=
  if ¬ t.length % 4 = 0 then (3, t.length) else if fuL D64 (noFill t) < (noFill t).length then (10, fuL D64 (noFill t)) else if ¬ v64H t = 0 then (11, (noFill t).length - 1) else (0, 0)
theorem v64E_ok {t : List Nat} (h : (v64E t).1 = 0) : v64E t = (0, 0) ∧ t.length % 4 = 0 ∧ ¬ fuL D64 (noFill t) < (noFill t).length ∧ v64H t = 0 := by
  unfold v64E at h ⊢
  by_cases h1 : t.length % 4 = 0
  · by_cases h2 : fuL D64 (noFill t) < (noFill t).length
    · rw [if_neg (by omega), if_pos h2] at h; simp at h
    · by_cases h3 : v64H t = 0
      · rw [if_neg (by omega), if_neg h2, if_neg (by omega)]
        exact ⟨rfl, h1, h2, h3⟩
      · rw [if_neg (by omega), if_neg h2, if_pos h3] at h; simp at h
  · rw [if_pos h1] at h; simp at h
theorem known_mem {D t : List Nat} (h : ¬ fuL D t < t.length) : ∀ c ∈ t, D.idxOf c < D.length := fun c hc => by
  obtain ⟨j, hj, rfl⟩ := List.mem_iff_getElem.1 hc
  have := fuL_all D t h j hj
  simpa [List.getD, hj] using this
theorem b64_canon {t : List Nat} (h : (v64E t).1 = 0) : b64L (v64V t) = t := by
  obtain ⟨_, h1, h2, h3⟩ := v64E_ok h
  have hk : ∀ c ∈ noFill t, D64.idxOf c < 64 := known_mem h2
  obtain ⟨a1, a2⟩ := s64_all (noFill t) hk
  obtain ⟨f, hf, ht⟩ := noFill_form t
  have hl : t.length = (noFill t).length + f := by
    conv => lhs; rw [ht]
    simp
  unfold v64V v64H at *
  rw [a1, b64L_x64 _ _ (Nat.le_refl _) hk (by rw [← a2]; exact h3) (by omega)]
  conv => rhs; rw [ht]
  congr 2
  omega
theorem x64_byt : ∀ (n : Nat) (d : List Nat), d.length ≤ n → (∀ c ∈ d, D64.idxOf c < 64) → ∀ x ∈ (x64 d).1, x < 256
  | _, [], _, _, x, hx => by simp [x64] at hx
  | _, [a], _, _, x, hx => by simp [x64] at hx
  | _, [a, b], _, hk, x, hx => by
    have ha := hk a (by simp)
    have hb := hk b (by simp)
    simp only [x64, List.mem_cons, List.not_mem_nil, or_false] at hx
    unfold kv at hx
    omega
  | _, [a, b, c], _, hk, x, hx => by
    have ha := hk a (by simp)
    have hb := hk b (by simp)
    have hc := hk c (by simp)
    simp only [x64, List.mem_cons, List.not_mem_nil, or_false] at hx
    unfold kv at hx
    omega
  | 0, a :: b :: c :: e :: r, h, _, _, _ => by simp at h
  | n + 1, a :: b :: c :: e :: r, h, hk, x, hx => by
    have ha := hk a (by simp)
    have hb := hk b (by simp)
    have hc := hk c (by simp)
    have he := hk e (by simp)
    simp only [x64, List.mem_cons] at hx
    rcases hx with hx | hx | hx | hx
    · unfold kv at hx; omega
    · unfold kv at hx; omega
    · unfold kv at hx; omega
    · exact x64_byt n r (by simp at h; omega) (fun c hc => hk c (by simp [hc])) x hx
theorem v64V_byt {t : List Nat} (h : (v64E t).1 = 0) : ∀ x ∈ v64V t, x < 256 := by
  obtain ⟨_, h1, h2, h3⟩ := v64E_ok h
  have hk : ∀ c ∈ noFill t, D64.idxOf c < 64 := known_mem h2
  unfold v64V
  rw [(s64_all (noFill t) hk).1]
  exact x64_byt _ _ (Nat.le_refl _) hk
/-- The digits of a list of bytes. -/
def dg : List Nat → List Nat
  | [] => []
  | [a] => [g64 (a / 4), g64 (a % 4 * 16)]
  | [a, b] => [g64 (a / 4), g64 (a % 4 * 16 + b / 16), g64 (b % 16 * 4)]
  | a :: b :: c :: r => g64 (a / 4) :: g64 (a % 4 * 16 + b / 16) :: g64 (b % 16 * 4 + c / 64) :: g64 (c % 64) :: dg r
theorem dg_all : ∀ (n : Nat) (l : List Nat), l.length ≤ n → (∀ x ∈ l, x < 256) → (∀ c ∈ dg l, D64.idxOf c < 64 ∧ ¬ c = 61) ∧ (∃ f, f ≤ 2 ∧ b64L l = dg l ++ List.replicate f 61) ∧ x64 (dg l) = (l, 0)
  | _, [], _, _ => ⟨fun c hc => by simp [dg] at hc, ⟨0, by omega, by simp [dg, b64L]⟩, by simp [dg, x64]⟩
  | _, [a], _, hb => by
    have ha := hb a (by simp)
    refine ⟨fun c hc => ?_, ⟨2, by omega, ?_⟩, ?_⟩
    · simp only [dg, List.mem_cons, List.not_mem_nil, or_false] at hc
      rcases hc with rfl | rfl
      · exact ⟨by rw [kv_g64 ⟨a / 4, by omega⟩]; simp only; omega, g64_ne ⟨a / 4, by omega⟩⟩
      · exact ⟨by rw [kv_g64 ⟨a % 4 * 16, by omega⟩]; simp only; omega, g64_ne ⟨a % 4 * 16, by omega⟩⟩
    · simp [b64L, ch64, dg, List.replicate]
    · have e1 : kv D64 (g64 (a / 4)) = a / 4 := kv_g64 ⟨a / 4, by omega⟩
      have e2 : kv D64 (g64 (a % 4 * 16)) = a % 4 * 16 := kv_g64 ⟨a % 4 * 16, by omega⟩
      simp only [dg, x64, e1, e2, Prod.mk.injEq, List.cons.injEq, and_true]
      omega
  | _, [a, b], _, hb => by
    have ha := hb a (by simp)
    have hb' := hb b (by simp)
    refine ⟨fun c hc => ?_, ⟨1, by omega, ?_⟩, ?_⟩
    · simp only [dg, List.mem_cons, List.not_mem_nil, or_false] at hc
      rcases hc with rfl | rfl | rfl
      · exact ⟨by rw [kv_g64 ⟨a / 4, by omega⟩]; simp only; omega, g64_ne ⟨a / 4, by omega⟩⟩
      · exact ⟨by rw [kv_g64 ⟨a % 4 * 16 + b / 16, by omega⟩]; simp only; omega, g64_ne ⟨a % 4 * 16 + b / 16, by omega⟩⟩
      · exact ⟨by rw [kv_g64 ⟨b % 16 * 4, by omega⟩]; simp only; omega, g64_ne ⟨b % 16 * 4, by omega⟩⟩
    · simp [b64L, ch64, dg, List.replicate]
    · have e1 : kv D64 (g64 (a / 4)) = a / 4 := kv_g64 ⟨a / 4, by omega⟩
      have e2 : kv D64 (g64 (a % 4 * 16 + b / 16)) = a % 4 * 16 + b / 16 := kv_g64 ⟨a % 4 * 16 + b / 16, by omega⟩
      have e3 : kv D64 (g64 (b % 16 * 4)) = b % 16 * 4 := kv_g64 ⟨b % 16 * 4, by omega⟩
      simp only [dg, x64, e1, e2, e3, Prod.mk.injEq, List.cons.injEq, and_true]
      omega
  | 0, a :: b :: c :: r, h, _ => by simp at h
  | n + 1, a :: b :: c :: r, h, hb => by
    have ha := hb a (by simp)
    have hb' := hb b (by simp)
    have hc' := hb c (by simp)
    obtain ⟨i1, ⟨f, hf, i2⟩, i3⟩ := dg_all n r (by simp at h; omega) (fun x hx => hb x (by simp [hx]))
    refine ⟨fun x hx => ?_, ⟨f, hf, ?_⟩, ?_⟩
    · simp only [dg, List.mem_cons] at hx
      rcases hx with rfl | rfl | rfl | rfl | hx
      · exact ⟨by rw [kv_g64 ⟨a / 4, by omega⟩]; simp only; omega, g64_ne ⟨a / 4, by omega⟩⟩
      · exact ⟨by rw [kv_g64 ⟨a % 4 * 16 + b / 16, by omega⟩]; simp only; omega, g64_ne ⟨a % 4 * 16 + b / 16, by omega⟩⟩
      · exact ⟨by rw [kv_g64 ⟨b % 16 * 4 + c / 64, by omega⟩]; simp only; omega, g64_ne ⟨b % 16 * 4 + c / 64, by omega⟩⟩
      · exact ⟨by rw [kv_g64 ⟨c % 64, by omega⟩]; simp only; omega, g64_ne ⟨c % 64, by omega⟩⟩
      · exact i1 x hx
    · simp [b64L, ch64, dg, i2]
    · have e1 : kv D64 (g64 (a / 4)) = a / 4 := kv_g64 ⟨a / 4, by omega⟩
      have e2 : kv D64 (g64 (a % 4 * 16 + b / 16)) = a % 4 * 16 + b / 16 := kv_g64 ⟨a % 4 * 16 + b / 16, by omega⟩
      have e3 : kv D64 (g64 (b % 16 * 4 + c / 64)) = b % 16 * 4 + c / 64 := kv_g64 ⟨b % 16 * 4 + c / 64, by omega⟩
      have e4 : kv D64 (g64 (c % 64)) = c % 64 := kv_g64 ⟨c % 64, by omega⟩
      simp only [dg, x64, e1, e2, e3, e4, i3, Prod.mk.injEq, List.cons.injEq, and_true]
      omega
theorem b64_back (l : List Nat) (hb : ∀ x ∈ l, x < 256) : v64E (b64L l) = (0, 0) ∧ v64V (b64L l) = l := by
  obtain ⟨i1, ⟨f, hf, i2⟩, i3⟩ := dg_all _ l (Nat.le_refl _) hb
  have hn : noFill (b64L l) = dg l := by rw [i2]; exact noFill_app _ (fun c hc => (i1 c hc).2) f hf
  obtain ⟨a1, a2⟩ := s64_all (dg l) (fun c hc => (i1 c hc).1)
  have h4 : (b64L l).length % 4 = 0 := by rw [b64L_len _ l (Nat.le_refl _)]; omega
  refine ⟨?_, ?_⟩
  · unfold v64E v64H
    rw [hn, if_neg (by omega), if_neg (by rw [fuL_none D64 _ (fun c hc => (i1 c hc).1)]; omega), if_neg (by rw [a2, i3]; simp)]
  · unfold v64V
    rw [hn, a1, i3]
end Go.Proofs.YtkppejaigodgiabDoor
