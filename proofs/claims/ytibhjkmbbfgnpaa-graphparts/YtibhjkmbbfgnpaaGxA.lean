/- Graphs searched: what is fresh, layer by layer (mathematics). -/
import Derived.Test.YtibhjkmbbfgnpaaGi
namespace Go.Proofs.Ytibhjkmbbfgnpaa
namespace GM
/-- What is not marked yet of a list, and the marks behind it. -/
def frs (M : List Nat) : List Nat → List Nat × List Nat
  | [] => ([], M)
  | v :: r => if v ∈ M then frs M r else (v :: (frs (v :: M) r).1, (frs (v :: M) r).2)
theorem frs_app : ∀ (A B M : List Nat), frs M (A ++ B) = ((frs M A).1 ++ (frs (frs M A).2 B).1, (frs (frs M A).2 B).2)
  | [], B, M => rfl
  | v :: r, B, M => by
    rw [List.cons_append, frs, frs]
    by_cases h : v ∈ M
    · rw [if_pos h, if_pos h]
      exact frs_app r B M
    · rw [if_neg h, if_neg h, frs_app r B (v :: M)]
      rfl
theorem frs_snoc (M A : List Nat) (x : Nat) : frs M (A ++ [x]) = if x ∈ (frs M A).2 then ((frs M A).1, (frs M A).2) else ((frs M A).1 ++ [x], x :: (frs M A).2) := by
  rw [frs_app, frs, frs]
  by_cases h : x ∈ (frs M A).2
  · simp [h]
  · simp [h, frs]
theorem frs_mem : ∀ (A M : List Nat) (x : Nat), x ∈ (frs M A).2 ↔ x ∈ M ∨ x ∈ A
  | [], M, x => by simp [frs]
  | v :: r, M, x => by
    rw [frs]
    by_cases h : v ∈ M
    · rw [if_pos h, frs_mem r M x, List.mem_cons]
      constructor
      · rintro (q | q)
        · exact .inl q
        · exact .inr (.inr q)
      · rintro (q | rfl | q)
        · exact .inl q
        · exact .inl h
        · exact .inr q
    · rw [if_neg h]
      show x ∈ (frs (v :: M) r).2 ↔ _
      rw [frs_mem r (v :: M) x, List.mem_cons, List.mem_cons]
      constructor
      · rintro ((q | q) | q)
        · exact .inr (.inl q)
        · exact .inl q
        · exact .inr (.inr q)
      · rintro (q | q | q)
        · exact .inl (.inr q)
        · exact .inl (.inl q)
        · exact .inr q
theorem frs_sub : ∀ (A M : List Nat) (x : Nat), x ∈ (frs M A).1 → x ∈ A
  | [], M, x, h => by cases h
  | v :: r, M, x, h => by
    rw [frs] at h
    split at h
    · exact List.mem_cons_of_mem _ (frs_sub r M x h)
    · rcases List.mem_cons.1 h with q | q
      · rw [q]
        exact List.mem_cons_self ..
      · exact List.mem_cons_of_mem _ (frs_sub r _ x q)
theorem frs_len : ∀ (A M : List Nat), (frs M A).2.length = M.length + (frs M A).1.length
  | [], M => rfl
  | v :: r, M => by
    rw [frs]
    by_cases h : v ∈ M
    · rw [if_pos h]
      exact frs_len r M
    · rw [if_neg h]
      show (frs (v :: M) r).2.length = M.length + ((frs (v :: M) r).1.length + 1)
      rw [frs_len r (v :: M), List.length_cons]
      omega
theorem frs_nodup : ∀ (A M : List Nat), M.Nodup → (frs M A).2.Nodup
  | [], M, h => h
  | v :: r, M, h => by
    rw [frs]
    by_cases q : v ∈ M
    · rw [if_pos q]
      exact frs_nodup r M h
    · rw [if_neg q]
      exact frs_nodup r (v :: M) (List.nodup_cons.2 ⟨q, h⟩)
theorem nodup_len : ∀ (N : Nat) (L : List Nat), L.Nodup → (∀ x ∈ L, x < N) → L.length ≤ N
  | 0, L, _, h => by
    cases L with
    | nil => exact Nat.le_refl _
    | cons x r => exact absurd (h x (List.mem_cons_self ..)) (by omega)
  | N + 1, L, hn, h => by
    have h1 := nodup_len N (L.erase N) (hn.erase N) (fun x hx => by
      have h2 := (hn.mem_erase_iff).1 hx
      have := h x h2.2
      have := h2.1
      omega)
    by_cases q : N ∈ L
    · rw [List.length_erase_of_mem q] at h1
      omega
    · rw [List.erase_of_not_mem q] at h1
      omega
/-- Numbers, sorted. -/
def srt (L : List Nat) : List Nat := L.mergeSort fun a b => decide (a ≤ b)
theorem srt_mem (L : List Nat) (x : Nat) : x ∈ srt L ↔ x ∈ L := (List.mergeSort_perm L _).mem_iff
theorem srt_len (L : List Nat) : (srt L).length = L.length := (List.mergeSort_perm L _).length_eq
/-- The layers of a search, and the marks behind each. -/
def lyr (nd : Nat → List Nat) (S : List Nat) : Nat → List Nat × List Nat
  | 0 => frs [] S
  | d + 1 => frs (lyr nd S d).2 ((srt (lyr nd S d).1).flatMap nd)
section
variable {nd : Nat → List Nat} {S : List Nat} {N : Nat}
theorem lyr_lt (hS : ∀ x ∈ S, x < N) (hn : ∀ v, v < N → ∀ x ∈ nd v, x < N) : ∀ d, (∀ x ∈ (lyr nd S d).2, x < N) ∧ ∀ x ∈ (lyr nd S d).1, x < N
  | 0 => ⟨fun x hx => by
      rcases (frs_mem S [] x).1 hx with q | q
      · cases q
      · exact hS x q, fun x hx => hS x (frs_sub S [] x hx)⟩
  | d + 1 => by
    obtain ⟨h1, h2⟩ := lyr_lt hS hn d
    have h3 : ∀ x ∈ (srt (lyr nd S d).1).flatMap nd, x < N := fun x hx => by
      obtain ⟨v, hv, hx⟩ := List.mem_flatMap.1 hx
      exact hn v (h2 v ((srt_mem _ _).1 hv)) x hx
    exact ⟨fun x hx => ((frs_mem _ _ x).1 hx).elim (h1 x) (h3 x), fun x hx => h3 x (frs_sub _ _ x hx)⟩
theorem lyr_nodup : ∀ d, (lyr nd S d).2.Nodup
  | 0 => frs_nodup S [] List.nodup_nil
  | d + 1 => frs_nodup _ _ (lyr_nodup d)
theorem lyr_grow : ∀ d, (∀ i, i ≤ d → (lyr nd S i).1 ≠ []) → d + 1 ≤ (lyr nd S d).2.length
  | 0, h => by
    have h1 := List.length_pos_iff.2 (h 0 (Nat.le_refl _))
    have h2 : (lyr nd S 0).2.length = 0 + (lyr nd S 0).1.length := frs_len S []
    omega
  | d + 1, h => by
    have h1 := List.length_pos_iff.2 (h (d + 1) (Nat.le_refl _))
    have h2 : (lyr nd S (d + 1)).2.length = (lyr nd S d).2.length + (lyr nd S (d + 1)).1.length := frs_len _ _
    have h3 := lyr_grow d (fun i hi => h i (by omega))
    omega
theorem least_of {p : Nat → Prop} : ∀ m, (∃ K, K ≤ m ∧ p K) → ∃ K, K ≤ m ∧ p K ∧ ∀ i, i < K → ¬ p i
  | 0, h => by
    obtain ⟨K, h1, h2⟩ := h
    exact ⟨K, h1, h2, fun i hi => by omega⟩
  | m + 1, h => by
    by_cases q : ∃ K, K ≤ m ∧ p K
    · obtain ⟨K, h1, h2, h3⟩ := least_of m q
      exact ⟨K, by omega, h2, h3⟩
    · obtain ⟨K, h1, h2⟩ := h
      exact ⟨K, h1, h2, fun i hi hp => q ⟨i, by omega, hp⟩⟩
/-- How many layers there are. -/
theorem lyr_end (hS : ∀ x ∈ S, x < N) (hn : ∀ v, v < N → ∀ x ∈ nd v, x < N) : ∃ K, K ≤ N ∧ (lyr nd S K).1 = [] ∧ ∀ i, i < K → (lyr nd S i).1 ≠ [] := by
  refine least_of (p := fun d => (lyr nd S d).1 = []) N (Classical.byContradiction fun h => ?_)
  have h1 := lyr_grow (nd := nd) (S := S) N (fun i hi q => h ⟨i, hi, q⟩)
  have h2 := nodup_len N _ (lyr_nodup N) (lyr_lt hS hn N).1
  omega
/-- Behind the layers there is nothing. -/
theorem lyr_sum : ∀ d, (lyr nd S d).1.length ≤ (lyr nd S d).2.length
  | 0 => by
    have h2 : (lyr nd S 0).2.length = 0 + (lyr nd S 0).1.length := frs_len S []
    omega
  | d + 1 => by
    have h2 : (lyr nd S (d + 1)).2.length = (lyr nd S d).2.length + (lyr nd S (d + 1)).1.length := frs_len _ _
    omega
end
end GM
end Go.Proofs.Ytibhjkmbbfgnpaa
