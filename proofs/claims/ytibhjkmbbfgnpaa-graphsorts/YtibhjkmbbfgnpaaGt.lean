import Derived.Test.YtibhjkmbbfgnpaaGs
namespace Go.Proofs.Ytibhjkmbbfgnpaa.GM
/-- The lists in which a number stands, of the first so many. -/
def trL (L : Nat → List Nat) (b a : Nat) : List Nat := (List.range b).filter fun k => decide (a ∈ L k)
theorem trL_succ (L : Nat → List Nat) (b a : Nat) : trL L (b + 1) a = trL L b a ++ (if a ∈ L b then [b] else []) := by
  unfold trL
  rw [List.range_succ, List.filter_append]
  by_cases h : a ∈ L b <;> simp [h]
theorem trL_lt (L : Nat → List Nat) (b a x : Nat) (h : x ∈ trL L b a) : x < b := by
  unfold trL at h
  simp at h
  exact h.1
theorem trL_len (L : Nat → List Nat) (b a : Nat) : (trL L b a).length ≤ b := by
  have := List.length_filter_le (fun k => decide (a ∈ L k)) (List.range b)
  rw [List.length_range] at this
  exact this
/-- The same while a list is gone over. -/
def trS (L : Nat → List Nat) (b i a : Nat) : List Nat := trL L b a ++ (if a ∈ (L b).take i then [b] else [])
theorem trS_zero (L : Nat → List Nat) (b a : Nat) : trS L b 0 a = trL L b a := by simp [trS]
theorem trS_end (L : Nat → List Nat) (b a : Nat) : trS L b (L b).length a = trL L (b + 1) a := by
  rw [trL_succ]
  unfold trS
  rw [List.take_length]
theorem trS_len (L : Nat → List Nat) (b i a : Nat) : (trS L b i a).length ≤ b + 1 := by
  unfold trS
  have := trL_len L b a
  rw [List.length_append]
  split <;> simp <;> omega
theorem trS_lt (L : Nat → List Nat) (b i a x : Nat) (h : x ∈ trS L b i a) : x ≤ b := by
  unfold trS at h
  rw [List.mem_append] at h
  rcases h with h | h
  · exact Nat.le_of_lt (trL_lt L b a x h)
  · split at h
    · simp at h; omega
    · cases h
theorem trS_other (L : Nat → List Nat) (b i a x : Nat) (hx : (L b)[i]? = some x) (h : a ≠ x) : trS L b (i + 1) a = trS L b i a := by
  unfold trS
  rw [List.take_add_one, hx]
  simp [h]
theorem trS_in (L : Nat → List Nat) (b i x : Nat) (_hx : (L b)[i]? = some x) (h : (trS L b i x).getLast? = some b) : trS L b (i + 1) x = trS L b i x := by
  by_cases hm : x ∈ (L b).take i
  · unfold trS
    rw [if_pos hm, if_pos (by rw [List.take_add_one]; exact List.mem_append_left _ hm)]
  · exfalso
    unfold trS at h
    rw [if_neg hm, List.append_nil] at h
    have := trL_lt L b x b (List.mem_of_getLast? h)
    omega
theorem trS_new (L : Nat → List Nat) (b i x : Nat) (hx : (L b)[i]? = some x) (h : (trS L b i x).getLast? ≠ some b) : trS L b (i + 1) x = trS L b i x ++ [b] := by
  by_cases hm : x ∈ (L b).take i
  · exfalso
    apply h
    unfold trS
    rw [if_pos hm]
    simp
  · unfold trS
    rw [if_neg hm, List.append_nil, if_pos (by rw [List.take_add_one, hx]; simp)]
/-- What needs a node, of the first so many edges. -/
def nds (E : List (Nat × Nat)) (i b : Nat) : List Nat := ((E.take i).filter fun e => e.2 == b).map Prod.fst
theorem nds_zero (E : List (Nat × Nat)) (b : Nat) : nds E 0 b = [] := by simp [nds]
theorem nds_same (E : List (Nat × Nat)) (i : Nat) (x y : Nat) (h : E[i]? = some (x, y)) : nds E (i + 1) y = nds E i y ++ [x] := by
  unfold nds
  rw [List.take_add_one, h]
  simp [List.filter_append]
theorem nds_other (E : List (Nat × Nat)) (i : Nat) (x y b : Nat) (h : E[i]? = some (x, y)) (hb : b ≠ y) : nds E (i + 1) b = nds E i b := by
  unfold nds
  rw [List.take_add_one, h]
  have : (y == b) = false := by simpa using fun h => hb h.symm
  simp [List.filter_append, this]
theorem nds_len (E : List (Nat × Nat)) (i b : Nat) : (nds E i b).length ≤ i := by
  unfold nds
  rw [List.length_map]
  have := List.length_filter_le (fun e : Nat × Nat => e.2 == b) (E.take i)
  rw [List.length_take] at this
  omega
theorem nds_mem (E : List (Nat × Nat)) (i a b : Nat) (h : a ∈ nds E i b) : (a, b) ∈ E := by
  unfold nds at h
  rw [List.mem_map] at h
  obtain ⟨⟨x, y⟩, h1, rfl⟩ := h
  rw [List.mem_filter] at h1
  have : y = b := by simpa using h1.2
  subst this
  exact List.mem_of_mem_take h1.1
theorem nds_all (E : List (Nat × Nat)) (a b : Nat) : a ∈ nds E E.length b ↔ (a, b) ∈ E := by
  refine ⟨nds_mem E _ a b, fun h => ?_⟩
  unfold nds
  rw [List.take_length, List.mem_map]
  exact ⟨(a, b), by rw [List.mem_filter]; exact ⟨h, by simp⟩, rfl⟩
/-- The lists of needs as edges, the first so many. -/
def edg (L : Nat → List Nat) (n : Nat) : List (Nat × Nat) := (List.range n).flatMap fun a => (L a).map fun b => (a, b)
theorem edg_succ (L : Nat → List Nat) (n : Nat) : edg L (n + 1) = edg L n ++ (L n).map fun b => (n, b) := by
  unfold edg
  rw [List.range_succ, List.flatMap_append]
  simp
theorem edg_congr (L M : Nat → List Nat) (n : Nat) (h : ∀ a, a < n → L a = M a) : edg L n = edg M n := by
  induction n with
  | zero => rfl
  | succ n ih => rw [edg_succ, edg_succ, ih (fun a ha => h a (by omega)), h n (by omega)]
/-- Norm. -/
theorem edg_norm (N : Nat) (E : List (Nat × Nat)) : edg (trL (nds E E.length) N) N = nrm N E := by
  unfold edg nrm
  congr 1
  funext a
  congr 1
  unfold trL
  congr 1
  funext b
  exact decide_eq_decide.2 (nds_all E a b)
/-- Transpose. -/
theorem edg_turn (N : Nat) (E : List (Nat × Nat)) (hE : ∀ e ∈ E, e.1 < N ∧ e.2 < N) : edg (trL (trL (nds E E.length) N) N) N = nrm N (trn E) := by
  unfold edg nrm
  congr 1
  funext a
  congr 1
  unfold trL
  congr 1
  funext b
  refine decide_eq_decide.2 ?_
  rw [mem_trn, List.mem_filter, List.mem_range]
  constructor
  · intro h
    exact (nds_all E b a).1 (of_decide_eq_true h.2)
  · intro h
    exact ⟨(hE _ h).2, decide_eq_true ((nds_all E b a).2 h)⟩
end Go.Proofs.Ytibhjkmbbfgnpaa.GM
