import Derived.Test.YtibhjkmbbfgnpaaGm
namespace Go.Proofs.Ytibhjkmbbfgnpaa.GM
/-- How many have a key. -/
def cnt (key : Nat × Nat → Nat) (k : Nat) (E : List (Nat × Nat)) : Nat := (E.filter fun e => key e == k).length
/-- How many have a lesser key. -/
def stt (key : Nat × Nat → Nat) (E : List (Nat × Nat)) : Nat → Nat
  | 0 => 0
  | k + 1 => stt key E k + cnt key k E
theorem cnt_snoc (key : Nat × Nat → Nat) (k : Nat) (E : List (Nat × Nat)) (e : Nat × Nat) : cnt key k (E ++ [e]) = cnt key k E + (if key e = k then 1 else 0) := by
  unfold cnt
  rw [List.filter_append, List.length_append]
  by_cases h : key e = k <;> simp [h]
theorem cnt_take (key : Nat × Nat → Nat) (k : Nat) (E : List (Nat × Nat)) (i : Nat) (e : Nat × Nat) (h : E[i]? = some e) : cnt key k (E.take (i + 1)) = cnt key k (E.take i) + (if key e = k then 1 else 0) := by
  rw [List.take_add_one, h]
  exact cnt_snoc key k _ e
theorem cnt_le (key : Nat × Nat → Nat) (k : Nat) (E : List (Nat × Nat)) (i : Nat) : cnt key k (E.take i) ≤ cnt key k E := by
  unfold cnt
  exact ((List.take_sublist i E).filter _).length_le
theorem cnt_len (key : Nat × Nat → Nat) (k : Nat) (E : List (Nat × Nat)) : cnt key k E ≤ E.length := List.length_filter_le _ _
theorem stt_cons (key : Nat × Nat → Nat) (e : Nat × Nat) (E : List (Nat × Nat)) : ∀ n, stt key (e :: E) n = stt key E n + (if key e < n then 1 else 0)
  | 0 => by simp [stt]
  | n + 1 => by
    have hc : cnt key n (e :: E) = cnt key n E + (if key e = n then 1 else 0) := by
      unfold cnt
      rw [List.filter_cons]
      by_cases h : key e = n <;> simp [h]
    rw [stt, stt, stt_cons key e E n, hc]
    by_cases h1 : key e < n
    · have h2 : ¬ key e = n := by omega
      have h3 : key e < n + 1 := by omega
      simp only [h1, h2, h3, if_true, if_false]; omega
    · by_cases h2 : key e = n
      · have h3 : key e < n + 1 := by omega
        simp only [h2, if_true, if_false, Nat.lt_irrefl, Nat.lt_succ_self]; omega
      · have h3 : ¬ key e < n + 1 := by omega
        simp only [h1, h2, h3, if_false]; omega
theorem stt_all (key : Nat × Nat → Nat) (n : Nat) : ∀ E : List (Nat × Nat), (∀ e ∈ E, key e < n) → stt key E n = E.length
  | [], _ => by
    have : ∀ m, stt key [] m = 0 := by intro m; induction m with | zero => rfl | succ m ih => rw [stt, ih]; rfl
    exact this n
  | e :: E, h => by
    rw [stt_cons, stt_all key n E (fun x hx => h x (List.mem_cons_of_mem _ hx)), if_pos (h e List.mem_cons_self)]
    rfl
theorem stt_mono (key : Nat × Nat → Nat) (E : List (Nat × Nat)) {j k : Nat} (h : j ≤ k) : stt key E j ≤ stt key E k := by
  induction k with
  | zero => have : j = 0 := by omega
            rw [this]; exact Nat.le_refl _
  | succ k ih =>
    by_cases hj : j = k + 1
    · rw [hj]; exact Nat.le_refl _
    · have := ih (by omega); rw [stt]; omega
theorem stt_lt (key : Nat × Nat → Nat) (n : Nat) (E : List (Nat × Nat)) (h : ∀ e ∈ E, key e < n) (i : Nat) (e : Nat × Nat) (he : E[i]? = some e) : stt key E (key e) + cnt key (key e) (E.take i) < E.length := by
  have h1 := cnt_take key (key e) E i e he
  rw [if_pos rfl] at h1
  have h2 := cnt_le key (key e) E (i + 1)
  have h3 : stt key E (key e + 1) ≤ stt key E n := stt_mono key E (h e (List.mem_of_getElem? he))
  rw [stt_all key n E h, stt] at h3
  omega
/-- Blocks behind one another. -/
def cat (n : Nat) (B : Nat → List (Nat × Nat)) : List (Nat × Nat) := (List.range n).flatMap B
theorem cat_succ (n : Nat) (B : Nat → List (Nat × Nat)) : cat (n + 1) B = cat n B ++ B n := by
  unfold cat
  rw [List.range_succ, List.flatMap_append]
  simp
theorem cat_congr (n : Nat) (A B : Nat → List (Nat × Nat)) (h : ∀ k, k < n → A k = B k) : cat n A = cat n B := by
  induction n with
  | zero => rfl
  | succ n ih => rw [cat_succ, cat_succ, ih (fun k hk => h k (by omega)), h n (by omega)]
theorem cat_set (n : Nat) (B : Nat → List (Nat × Nat)) (k t : Nat) (v : Nat × Nat) (hk : k < n) (ht : t < (B k).length) : (cat n B).set ((cat k B).length + t) v = cat n (fun j => if j = k then (B k).set t v else B j) := by
  induction n with
  | zero => omega
  | succ n ih =>
    rw [cat_succ, cat_succ]
    by_cases h : k = n
    · subst h
      rw [if_pos rfl, List.set_append_right _ _ (by omega), Nat.add_sub_cancel_left]
      congr 1
      exact cat_congr _ _ _ fun j hj => by rw [if_neg (by omega)]
    · rw [if_neg (Ne.symm h), ← ih (by omega)]
      refine List.set_append_left _ _ ?_
      have hlt : (cat (k + 1) B).length ≤ (cat n B).length := by
        have : ∀ m, k + 1 ≤ m → (cat (k + 1) B).length ≤ (cat m B).length := by
          intro m hm
          induction m with
          | zero => omega
          | succ m ih2 =>
            by_cases hq : k + 1 = m + 1
            · rw [hq]; exact Nat.le_refl _
            · rw [cat_succ m, List.length_append]; have := ih2 (by omega); omega
        exact this n (by omega)
      rw [cat_succ, List.length_append] at hlt
      omega
/-- What stands of one key when i have been laid. -/
def blk (key : Nat × Nat → Nat) (E : List (Nat × Nat)) (i k : Nat) : List (Nat × Nat) := ((E.take i).filter fun e => key e == k) ++ List.replicate (cnt key k E - cnt key k (E.take i)) (0, 0)
theorem blk_len (key : Nat × Nat → Nat) (E : List (Nat × Nat)) (i k : Nat) : (blk key E i k).length = cnt key k E := by
  unfold blk
  rw [List.length_append, List.length_replicate]
  have := cnt_le key k E i
  show cnt key k (E.take i) + _ = _
  omega
def fil (n : Nat) (key : Nat × Nat → Nat) (E : List (Nat × Nat)) (i : Nat) : List (Nat × Nat) := cat n (blk key E i)
theorem cat_blk_len (key : Nat × Nat → Nat) (E : List (Nat × Nat)) (i : Nat) : ∀ k, (cat k (blk key E i)).length = stt key E k
  | 0 => rfl
  | k + 1 => by rw [cat_succ, List.length_append, blk_len, cat_blk_len key E i k]; rfl
theorem fil_len (n : Nat) (key : Nat × Nat → Nat) (E : List (Nat × Nat)) (h : ∀ e ∈ E, key e < n) (i : Nat) : (fil n key E i).length = E.length := by
  unfold fil
  rw [cat_blk_len, stt_all key n E h]
theorem fil_zero (n : Nat) (key : Nat × Nat → Nat) (E : List (Nat × Nat)) (h : ∀ e ∈ E, key e < n) : fil n key E 0 = List.replicate E.length (0, 0) := by
  rw [List.eq_replicate_iff]
  refine ⟨fil_len n key E h 0, fun x hx => ?_⟩
  unfold fil cat blk at hx
  simp at hx
  obtain ⟨_, _, _, hx⟩ := hx
  exact hx
theorem fil_end (n : Nat) (key : Nat × Nat → Nat) (E : List (Nat × Nat)) : fil n key E E.length = bkt n key E := by
  unfold fil bkt
  show cat n _ = cat n _
  refine cat_congr n _ _ fun k _ => ?_
  unfold blk
  rw [List.take_length, Nat.sub_self, List.replicate_zero, List.append_nil]
theorem fil_step (n : Nat) (key : Nat × Nat → Nat) (E : List (Nat × Nat)) (h : ∀ e ∈ E, key e < n) (i : Nat) (e : Nat × Nat) (he : E[i]? = some e) : (fil n key E i).set (stt key E (key e) + cnt key (key e) (E.take i)) e = fil n key E (i + 1) := by
  have hk := h e (List.mem_of_getElem? he)
  have h1 := cnt_take key (key e) E i e he
  rw [if_pos rfl] at h1
  have h2 := cnt_le key (key e) E (i + 1)
  unfold fil
  rw [← cat_blk_len key E i (key e), cat_set n _ (key e) _ e hk (by rw [blk_len]; omega)]
  refine cat_congr n _ _ fun k _ => ?_
  by_cases hq : k = key e
  · rw [if_pos hq, hq]
    unfold blk
    have ht : E.take (i + 1) = E.take i ++ [e] := by rw [List.take_add_one, he]; rfl
    have h3 : cnt key (key e) E - cnt key (key e) (E.take i) = (cnt key (key e) E - cnt key (key e) (E.take (i + 1))) + 1 := by omega
    rw [h3, List.replicate_succ, List.set_append_right (cnt key (key e) (E.take i)) _ (Nat.le_refl _)]
    show _ ++ List.set _ (cnt key (key e) (E.take i) - cnt key (key e) (E.take i)) e = _
    rw [Nat.sub_self, List.set_cons_zero, ht, List.filter_append]
    simp
  · rw [if_neg hq]
    unfold blk
    have h4 := cnt_take key k E i e he
    rw [if_neg (fun x => hq x.symm)] at h4
    have ht : E.take (i + 1) = E.take i ++ [e] := by rw [List.take_add_one, he]; rfl
    rw [h4, ht, List.filter_append]
    have : (key e == k) = false := by simpa using fun x => hq x.symm
    simp [this]
/-- Numbers by a function. -/
theorem map_set (n : Nat) (F G : Nat → Nat) (j v : Nat) (hj : G j = v) (h : ∀ i, i ≠ j → G i = F i) : ((List.range n).map F).set j v = (List.range n).map G := by
  apply List.ext_getElem?
  intro i
  rw [List.getElem?_set]
  by_cases hi : j = i
  · subst hi
    rw [if_pos rfl]
    by_cases hn : j < n
    · simp [hn, hj]
    · simp [hn]
  · rw [if_neg hi]
    by_cases hn : i < n
    · simp [hn, h i (fun x => hi x.symm)]
    · simp [hn]
end Go.Proofs.Ytibhjkmbbfgnpaa.GM
