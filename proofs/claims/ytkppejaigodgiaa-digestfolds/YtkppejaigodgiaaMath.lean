namespace Go.Proofs.Ytkppejaigodgiaa
/-- One round of folding. -/
def fstep (l h : List Nat) (k : Nat) : List Nat := h.set (k % 20) (h.getD (k % 20) 0 ^^^ l.getD k 0)
/-- What is folded behind k rounds. -/
def foldk (l : List Nat) : Nat → List Nat
  | 0 => List.replicate 20 0
  | k + 1 => fstep l (foldk l k) k
theorem foldk_len (l : List Nat) : ∀ k, (foldk l k).length = 20
  | 0 => by simp [foldk]
  | k + 1 => by simp [foldk, fstep, foldk_len l k]
theorem foldk_succ (l : List Nat) (k : Nat) : foldk l (k + 1) = (foldk l k).set (k % 20) ((foldk l k).getD (k % 20) 0 ^^^ l.getD k 0) := rfl
theorem ifc {p q : Prop} [Decidable p] [Decidable q] {x y : Nat} (h : p ↔ q) : (if p then x else y) = if q then x else y := by
  by_cases hp : p
  · rw [if_pos hp, if_pos (h.1 hp)]
  · rw [if_neg hp, if_neg (fun hq => hp (h.2 hq))]
theorem getD_set (h : List Nat) (i v j : Nat) (hi : i < h.length) : (h.set i v).getD j 0 = if i = j then v else h.getD j 0 := by
  by_cases e : i = j
  · subst e; simp [List.getD, hi]
  · simp [List.getD, e]
theorem ext_getD {a b : List Nat} (h : a.length = b.length) (hj : ∀ j, j < a.length → a.getD j 0 = b.getD j 0) : a = b := by
  apply List.ext_getElem h
  intro i h1 h2
  have := hj i h1
  simpa [List.getD, h1, h2] using this
theorem getD_lt {l : List Nat} (hl : ∀ b ∈ l, b < 256) (i : Nat) : l.getD i 0 < 256 := by
  by_cases hi : i < l.length
  · have : l.getD i 0 = l[i] := by simp [List.getD, hi]
    rw [this]; exact hl _ (List.getElem_mem hi)
  · simp [List.getD, hi]
theorem xor_byte {a b : Nat} (ha : a < 256) (hb : b < 256) : a ^^^ b < 256 := Nat.xor_lt_two_pow (n := 8) ha hb
theorem foldk_at (l : List Nat) : ∀ k, k ≤ 40 → ∀ j, j < 20 → (foldk l k).getD j 0 = (if j < k then l.getD j 0 else 0) ^^^ (if j + 20 < k then l.getD (j + 20) 0 else 0)
  | 0, _, j, hj => by
    rw [if_neg (by omega), if_neg (by omega)]
    show (List.replicate 20 0).getD j 0 = _
    rw [List.getD_eq_getElem?_getD, List.getElem?_replicate, if_pos hj]; rfl
  | k + 1, hk, j, hj => by
    have ih := foldk_at l k (by omega) j hj
    rw [foldk_succ, getD_set _ _ _ _ (by rw [foldk_len]; omega)]
    by_cases e : k % 20 = j
    · rw [if_pos e, e, ih]
      by_cases hk20 : k < 20
      · have : k = j := by omega
        subst this
        rw [if_neg (by omega), if_neg (by omega), if_pos (by omega), if_neg (by omega)]
        simp
      · have : k = j + 20 := by omega
        subst this
        rw [if_pos (by omega), if_neg (by omega), if_pos (by omega), if_pos (by omega)]; simp
    · rw [if_neg e, ih, ifc (show j < k ↔ j < k + 1 by omega), ifc (show j + 20 < k ↔ j + 20 < k + 1 by omega)]
theorem foldk_lt (l : List Nat) (hl : ∀ b ∈ l, b < 256) : ∀ k, ∀ b ∈ foldk l k, b < 256
  | 0, b, hb => by
    have : b = 0 := List.eq_of_mem_replicate hb
    omega
  | k + 1, b, hb => by
    rw [foldk_succ] at hb
    rcases List.mem_or_eq_of_mem_set hb with h | h
    · exact foldk_lt l hl k b h
    · subst h
      exact xor_byte (getD_lt (foldk_lt l hl k) _) (getD_lt hl _)
def fold32 (l : List Nat) : List Nat := foldk l 32
theorem fold32_len (l : List Nat) : (fold32 l).length = 20 := foldk_len l 32
theorem fold32_lt (l : List Nat) (hl : ∀ b ∈ l, b < 256) : ∀ b ∈ fold32 l, b < 256 := foldk_lt l hl 32
theorem fold32_at (l : List Nat) (j : Nat) (hj : j < 20) : (fold32 l).getD j 0 = l.getD j 0 ^^^ (if j < 12 then l.getD (j + 20) 0 else 0) := by
  have h := foldk_at l 32 (by omega) j hj
  rw [if_pos (by omega)] at h
  rw [ifc (show j + 20 < 32 ↔ j < 12 by omega)] at h
  exact h
/-- The sum that is a's with b's first k bytes laid over it. -/
def mixed (a b : List Nat) (k : Nat) : List Nat := b.take k ++ a.drop k
theorem mixed_len (a b : List Nat) (k : Nat) (h : a.length = b.length) (hk : k ≤ a.length) : (mixed a b k).length = a.length := by
  simp [mixed]; omega
theorem mixed_lt (a b : List Nat) (k : Nat) (ha : ∀ x ∈ a, x < 256) (hb : ∀ x ∈ b, x < 256) : ∀ x ∈ mixed a b k, x < 256 := by
  intro x hx
  rcases List.mem_append.1 hx with h | h
  · exact hb x (List.mem_of_mem_take h)
  · exact ha x (List.mem_of_mem_drop h)
theorem mixed_at (a b : List Nat) (k j : Nat) (h : a.length = b.length) (hk : k ≤ a.length) : (mixed a b k).getD j 0 = if j < k then b.getD j 0 else a.getD j 0 := by
  unfold mixed
  simp only [List.getD_eq_getElem?_getD, List.getElem?_append, List.length_take]
  by_cases hj : j < k
  · rw [if_pos hj, if_pos (by omega), List.getElem?_take, if_pos hj]
  · rw [if_neg hj, if_neg (by omega), List.getElem?_drop]
    congr 2; omega
theorem mixed_succ (a b : List Nat) (k : Nat) (h : a.length = b.length) (hk : k < a.length) : (mixed a b k).set k (b.getD k 0) = mixed a b (k + 1) := by
  apply ext_getD
  · rw [List.length_set, mixed_len a b k h (by omega), mixed_len a b (k + 1) h (by omega)]
  · intro i hi
    rw [getD_set _ _ _ _ (by rw [mixed_len a b k h (by omega)]; omega), mixed_at a b (k + 1) i h (by omega), mixed_at a b k i h (by omega)]
    by_cases hi : k = i
    · subst hi; simp
    · rw [if_neg hi]
      exact ifc (by omega)
theorem fold_next (a b : List Nat) (k : Nat) (ha : a.length = 32) (hb : b.length = 32) (hk : k < 32) :
    (fold32 (mixed a b k)).set (k % 20) ((fold32 (mixed a b k)).getD (k % 20) 0 ^^^ a.getD k 0 ^^^ b.getD k 0) = fold32 (mixed a b (k + 1)) := by
  apply ext_getD
  · rw [List.length_set, fold32_len, fold32_len]
  · intro j hj
    rw [List.length_set, fold32_len] at hj
    have e2 := fold32_at (mixed a b (k + 1)) j hj
    have e3 := fold32_at (mixed a b k) j hj
    rw [mixed_at _ _ _ _ (by omega) (by omega), mixed_at _ _ _ _ (by omega) (by omega)] at e2 e3
    rw [getD_set _ _ _ _ (by rw [fold32_len]; omega), e2]
    by_cases e : k % 20 = j
    · rw [if_pos e, e, e3]
      by_cases hk20 : k < 20
      · have : k = j := by omega
        subst this
        rw [if_neg (show ¬ k < k by omega), if_neg (show ¬ k + 20 < k by omega), if_pos (show k < k + 1 by omega), if_neg (show ¬ k + 20 < k + 1 by omega)]
        generalize (if k < 12 then a.getD (k + 20) 0 else 0) = r
        rw [Nat.xor_comm (a.getD k 0) r, Nat.xor_assoc r, Nat.xor_self, Nat.xor_zero, Nat.xor_comm]
      · have : k = j + 20 := by omega
        subst this
        have h12 : j < 12 := by omega
        rw [if_pos h12, if_pos h12, if_pos (show j < j + 20 by omega), if_neg (show ¬ j + 20 < j + 20 by omega), if_pos (show j < j + 20 + 1 by omega), if_pos (show j + 20 < j + 20 + 1 by omega)]
        rw [Nat.xor_assoc (b.getD j 0), Nat.xor_self, Nat.xor_zero]
    · rw [if_neg e, e3, ifc (show j < k ↔ j < k + 1 by omega)]
      by_cases h12 : j < 12
      · rw [if_pos h12, if_pos h12, ifc (show j + 20 < k ↔ j + 20 < k + 1 by omega)]
      · rw [if_neg h12, if_neg h12]
theorem mixed_zero (a b : List Nat) : mixed a b 0 = a := by simp [mixed]
def one31 : List Nat := List.replicate 31 0 ++ [7]
def seven11 : List Nat := List.replicate 11 0 ++ [7] ++ List.replicate 8 0
theorem fold_one : fold32 one31 = seven11 := by decide
theorem fold_zero : fold32 (List.replicate 32 0) = List.replicate 20 0 := by decide
end Go.Proofs.Ytkppejaigodgiaa
