/- Graphs: mathematics of normed edges. -/
namespace Go.Proofs.Ytibhjkmbbfgnpaa.GM
/-- The edges of a graph in order, none twice. -/
def nrm (N : Nat) (E : List (Nat × Nat)) : List (Nat × Nat) :=
  (List.range N).flatMap fun a => ((List.range N).filter fun b => decide ((a, b) ∈ E)).map fun b => (a, b)
/-- Edges by a key, those of one key as they were. -/
def bkt (N : Nat) (key : Nat × Nat → Nat) (E : List (Nat × Nat)) : List (Nat × Nat) :=
  (List.range N).flatMap fun k => E.filter fun e => key e == k
/-- Without what stands right behind its like. -/
def dd (p : Option (Nat × Nat)) : List (Nat × Nat) → List (Nat × Nat)
  | [] => []
  | x :: r => if p = some x then dd (some x) r else x :: dd (some x) r
theorem dd_snoc (x : Nat × Nat) : ∀ (l : List (Nat × Nat)) (p : Option (Nat × Nat)), dd p (l ++ [x]) = dd p l ++ (if (l.getLast?).or p = some x then [] else [x])
  | [], p => by
    by_cases h : p = some x <;> simp [dd, h]
  | y :: r, p => by
    have ih := dd_snoc x r (some y)
    have hl : ((y :: r).getLast?).or p = (r.getLast?).or (some y) := by
      cases r with
      | nil => simp
      | cons z t =>
        have : (y :: z :: t).getLast? = (z :: t).getLast? := by simp [List.getLast?_cons]
        rw [this]
        cases h : (z :: t).getLast? with
        | none => simp at h
        | some q => simp
    rw [hl, List.cons_append]
    by_cases h : p = some y
    · simp only [dd, if_pos h]
      rw [ih]
    · simp only [dd, if_neg h]
      rw [ih]
      rfl
theorem dd_rep (x : Nat × Nat) (T : List (Nat × Nat)) : ∀ n, dd (some x) (List.replicate n x ++ T) = dd (some x) T
  | 0 => by simp
  | n + 1 => by
    rw [List.replicate_succ, List.cons_append]
    simp only [dd, if_pos]
    exact dd_rep x T n
theorem dd_flat (c : Nat × Nat → Nat) : ∀ (P : List (Nat × Nat)) (p : Option (Nat × Nat)), P.Nodup → (∀ x, p = some x → x ∉ P) → dd p (P.flatMap fun x => List.replicate (c x) x) = P.filter fun x => decide (0 < c x)
  | [], p, _, _ => by simp [dd]
  | x :: r, p, hn, hp => by
    have hx := (List.nodup_cons.1 hn).1
    have hr := (List.nodup_cons.1 hn).2
    rw [List.flatMap_cons, List.filter_cons]
    cases hc : c x with
    | zero =>
      simp only [List.replicate_zero, List.nil_append]
      rw [dd_flat c r p hr (fun y hy => fun hm => hp y hy (List.mem_cons_of_mem _ hm))]
      simp
    | succ n =>
      have hpx : p ≠ some x := fun h => hp x h List.mem_cons_self
      rw [List.replicate_succ, List.cons_append]
      simp only [dd, if_neg hpx]
      rw [dd_rep, dd_flat c r (some x) hr (fun y hy => by cases hy; exact hx)]
      simp
/-- All pairs in order. -/
def prs (N : Nat) : List (Nat × Nat) := (List.range N).flatMap fun a => (List.range N).map fun b => (a, b)
theorem prs_nodup (N : Nat) : (prs N).Nodup := by
  unfold prs List.Nodup
  rw [List.pairwise_flatMap]
  constructor
  · intro a _
    rw [List.pairwise_map]
    exact (List.nodup_range (n := N)).imp (fun h h2 => h (by simpa using h2))
  · refine List.Pairwise.imp ?_ (List.nodup_range (n := N))
    intro a b hab x hx y hy h
    subst h
    simp at hx hy
    obtain ⟨_, _, rfl⟩ := hx
    obtain ⟨_, _, h⟩ := hy
    exact hab (by simp at h; exact h.1.symm)
theorem filter_eq_rep (x : Nat × Nat) : ∀ E : List (Nat × Nat), (E.filter fun e => e == x) = List.replicate (E.count x) x
  | [] => rfl
  | y :: r => by
    rw [List.filter_cons, List.count_cons, filter_eq_rep x r]
    by_cases h : y == x
    · have : y = x := by simpa using h
      subst this
      simp [List.replicate_succ]
    · simp [h]
theorem bkt2 (N : Nat) (E : List (Nat × Nat)) : bkt N Prod.fst (bkt N Prod.snd E) = (prs N).flatMap fun x => List.replicate (E.count x) x := by
  unfold bkt prs
  rw [List.flatMap_assoc]
  congr 1
  funext a
  rw [List.filter_flatMap, List.flatMap_map]
  congr 1
  funext b
  rw [List.filter_filter, ← filter_eq_rep]
  congr 1
theorem prs_filter (N : Nat) (E : List (Nat × Nat)) : ((prs N).filter fun x => decide (0 < E.count x)) = nrm N E := by
  unfold prs nrm
  rw [List.filter_flatMap]
  congr 1
  funext a
  rw [List.filter_map]
  congr 1
  congr 1
  funext b
  simp [List.count_pos_iff]
theorem dd_bkt (N : Nat) (E : List (Nat × Nat)) : dd none (bkt N Prod.fst (bkt N Prod.snd E)) = nrm N E := by
  rw [bkt2, dd_flat _ _ none (prs_nodup N) (fun _ h => by cases h), prs_filter]
/-- The edges turned. -/
def trn (E : List (Nat × Nat)) : List (Nat × Nat) := E.map fun e => (e.2, e.1)
theorem mem_trn (E : List (Nat × Nat)) (a b : Nat) : (a, b) ∈ trn E ↔ (b, a) ∈ E := by
  unfold trn
  rw [List.mem_map]
  constructor
  · rintro ⟨⟨x, y⟩, h, e⟩
    cases e
    exact h
  · intro h
    exact ⟨(b, a), h, rfl⟩
end Go.Proofs.Ytibhjkmbbfgnpaa.GM
