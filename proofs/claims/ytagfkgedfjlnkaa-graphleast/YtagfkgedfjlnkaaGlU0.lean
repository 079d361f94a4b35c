/- GraphLeast: what Reduce's answer is. -/
import Derived.Test.YtagfkgedfjlnkaaGlK
namespace Go.Proofs.Ytagfkgedfjlnkaa
open Go.RowKit GM Gl
theorem mem_edg {L : Nat → List Nat} {n a b : Nat} : (a, b) ∈ edg L n ↔ a < n ∧ b ∈ L a := by
  unfold edg
  rw [List.mem_flatMap]
  constructor
  · rintro ⟨x, hx, h⟩
    obtain ⟨y, hy, e⟩ := List.mem_map.1 h
    injection e with e1 e2
    subst e1 e2
    exact ⟨List.mem_range.1 hx, hy⟩
  · rintro ⟨h1, h2⟩
    exact ⟨a, List.mem_range.2 h1, List.mem_map.2 ⟨b, h2, rfl⟩⟩
theorem edg_nodup {L : Nat → List Nat} (h : ∀ a, (L a).Nodup) : ∀ n, (edg L n).Nodup
  | 0 => by simp [edg]
  | n + 1 => by
    rw [edg_succ, List.nodup_append]
    refine ⟨edg_nodup h n, ?_, ?_⟩
    · rw [List.Nodup, List.pairwise_map]
      exact (h n).imp fun hne e => hne (by injection e)
    · rintro ⟨a, b⟩ h1 ⟨c, d⟩ h2 e
      have h3 := (mem_edg.1 h1).1
      obtain ⟨y, -, e2⟩ := List.mem_map.1 h2
      injection e2 with e3 e4
      injection e with e5 e6
      omega
/-- What Reduce answers. -/
noncomputable def rdE (N : Nat) (E : List (Nat × Nat)) : List (Nat × Nat) := edg (red (nd N E)) N
theorem rd_fits {N : Nat} {E : List (Nat × Nat)} (h : Dn N E) : Fits (rdE N E) (red (nd N E)) := fun a b => by
  unfold rdE
  rw [mem_edg]
  constructor
  · exact fun q => q.2
  · intro q
    have := h _ ((mem_nd h a b).1 (red_sub q))
    exact ⟨this.2, q⟩
theorem rd_sub {N : Nat} {E : List (Nat × Nat)} (h : Dn N E) (e : Nat × Nat) (he : e ∈ rdE N E) : e ∈ E := (mem_nd h e.1 e.2).1 (red_sub ((rd_fits h e.1 e.2).1 he))
theorem rd_lt {N : Nat} {E : List (Nat × Nat)} (h : Dn N E) (e : Nat × Nat) (he : e ∈ rdE N E) : e.1 < N ∧ e.2 < N := by
  have := h e (rd_sub h e he)
  omega
theorem rd_same {N : Nat} {E : List (Nat × Nat)} (h : Dn N E) (i j : Nat) : pb (rdE N E) N i j = pb E N i j := pb_red (nd_lt h) (nd_fits h) (rd_fits h) (fun a b hb => by have := h _ ((mem_nd h a b).1 hb); simp at this; omega) i j
theorem rd_less {N : Nat} {E : List (Nat × Nat)} (h : Dn N E) (k a b : Nat) (hk : (rdE N E)[k]? = some (a, b)) : pb ((rdE N E).take k ++ (rdE N E).drop (k + 1)) N a b = false := by
  have nd' : (rdE N E).Nodup := edg_nodup (fun a => (nd_nodup N E a).filter _) N
  have hlt := (List.getElem?_eq_some_iff.1 hk).1
  refine pb_less (nd_lt h) (rd_fits h) (List.mem_of_getElem? hk) fun e he => ?_
  have hs : rdE N E = (rdE N E).take k ++ (a, b) :: (rdE N E).drop (k + 1) := by
    conv => lhs; rw [← List.take_append_drop k (rdE N E)]
    rw [List.drop_eq_getElem_cons hlt]
    congr 2
    exact Option.some.inj ((List.getElem?_eq_getElem hlt).symm.trans hk)
  have nd2 := nd'
  rw [hs, List.nodup_append] at nd2
  obtain ⟨n1, n2, n3⟩ := nd2
  rcases List.mem_append.1 he with q | q
  · exact ⟨List.mem_of_mem_take q, fun z => n3 e q (a, b) (by simp) z⟩
  · exact ⟨List.mem_of_mem_drop q, fun z => (List.nodup_cons.1 n2).1 (z ▸ q)⟩
theorem rd_nil {N : Nat} {E : List (Nat × Nat)} (h : Dn N E) : (rdE N E).length = 0 ↔ E.length = 0 := by
  rw [List.length_eq_zero_iff, List.length_eq_zero_iff]
  constructor
  · intro q
    cases E with
    | nil => rfl
    | cons e r =>
      exfalso
      have t : TG (nd N (e :: r)) e.1 e.2 := .one ((mem_nd h e.1 e.2).2 List.mem_cons_self)
      have t2 := tg_red (nd_lt h) _ _ t
      have : ∃ d, d ∈ red (nd N (e :: r)) e.1 := by
        cases t2 with
        | one z => exact ⟨_, z⟩
        | more z _ => exact ⟨_, z⟩
      obtain ⟨d, hd⟩ := this
      have := (rd_fits h e.1 d).2 hd
      rw [q] at this
      cases this
  · intro q
    subst q
    rw [List.eq_nil_iff_forall_not_mem]
    intro e he
    have := rd_sub h e he
    cases this
theorem rd_len {N : Nat} {E : List (Nat × Nat)} (h : Dn N E) (hN : N ≤ 60) : (rdE N E).length ≤ 500000 := by
  have h1 : ∀ a, (red (nd N E) a).length ≤ N := fun a => by
    refine Nat.le_trans (List.length_filter_le _ _) ?_
    have := List.Nodup.length_le_of_subset (l₁ := nd N E a) (l₂ := List.range N) (nd_nodup N E a) (fun v hv => List.mem_range.2 (by
      have h2 := h _ ((mem_nd h a v).1 hv)
      simp at h2
      omega))
    simpa using this
  have h2 := edg_bound _ N h1 N
  have h3 : N * N ≤ 60 * 60 := Nat.mul_le_mul hN hN
  unfold rdE
  omega
end Go.Proofs.Ytagfkgedfjlnkaa
