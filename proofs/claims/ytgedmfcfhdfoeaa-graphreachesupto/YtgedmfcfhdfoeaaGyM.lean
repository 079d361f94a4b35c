/- Graphs searched: distances (mathematics). -/
import Derived.Test.YtgedmfcfhdfoeaaGxF
import Derived.Test.YtgedmfcfhdfoeaaGlM
namespace Go.Proofs.Ytgedmfcfhdfoeaa
namespace GM
/-- Within d steps of a. -/
def Bl (F : Nat → List Nat) (a : Nat) : Nat → Nat → Prop
  | 0, v => v = a
  | d + 1, v => Bl F a d v ∨ ∃ u, Bl F a d u ∧ v ∈ F u
/-- At distance d. -/
def Ds (F : Nat → List Nat) (a d v : Nat) : Prop := Bl F a d v ∧ ∀ e, e < d → ¬ Bl F a e v
section
variable {F : Nat → List Nat} {a d e v u x N : Nat}
theorem Bl.mono (h : Bl F a d v) (hd : d ≤ e) : Bl F a e v := by
  induction e with
  | zero =>
    obtain rfl : d = 0 := by omega
    exact h
  | succ e ih =>
    by_cases q : d = e + 1
    · rw [← q]; exact h
    · exact .inl (ih (by omega))
theorem Ds.uniq (h : Ds F a d v) (k : Ds F a e v) : d = e := by
  rcases Nat.lt_trichotomy d e with q | q | q
  · exact absurd h.1 (k.2 d q)
  · exact q
  · exact absurd k.1 (h.2 e q)
theorem Bl.ds (h : Bl F a d v) : ∃ e, e ≤ d ∧ Ds F a e v := by
  obtain ⟨e, h1, h2, h3⟩ := least_of (p := fun e => Bl F a e v) d ⟨d, Nat.le_refl _, h⟩
  exact ⟨e, h1, h2, h3⟩
theorem Ds.pred (h : Ds F a (d + 1) v) : ∃ u, Ds F a d u ∧ v ∈ F u := by
  rcases h.1 with q | ⟨u, q1, q2⟩
  · exact absurd q (h.2 d (by omega))
  · refine ⟨u, ⟨q1, fun e he k => ?_⟩, q2⟩
    exact h.2 (e + 1) (by omega) (.inr ⟨u, k, q2⟩)
theorem Ds.next (h : Ds F a d u) (hx : v ∈ F u) : ∃ e, e ≤ d + 1 ∧ Ds F a e v := Bl.ds (d := d + 1) (.inr ⟨u, h.1, hx⟩)
theorem ds_zero : Ds F a 0 v ↔ v = a := ⟨fun h => h.1, fun h => ⟨h, fun e he => by omega⟩⟩
theorem Ds.le (h : Ds F a d v) (k : Bl F a e v) : d ≤ e := by
  by_cases q : d ≤ e
  · exact q
  · exact absurd k (h.2 e (by omega))
theorem bl_lt (ha : a < N) (hF : ∀ v, v < N → ∀ x ∈ F v, x < N) : ∀ d v, Bl F a d v → v < N
  | 0, v, h => by
    have h : v = a := h
    omega
  | d + 1, v, h => by
    rcases h with q | ⟨u, q1, q2⟩
    · exact bl_lt ha hF d v q
    · exact hF u (bl_lt ha hF d u q1) v q2
theorem tg_bl (h : Bl F a d u) {v : Nat} (k : Gl.TG F u v) : ∃ e, Bl F a e v := by
  induction k generalizing d with
  | one q => exact ⟨d + 1, .inr ⟨_, h, q⟩⟩
  | more q _ ih => exact ih (d := d + 1) (.inr ⟨_, h, q⟩)
/-- What is reached. -/
theorem reach_iff : (a = v ∨ Gl.TG F a v) ↔ ∃ d, Bl F a d v := by
  constructor
  · rintro (rfl | h)
    · exact ⟨0, rfl⟩
    · exact tg_bl (d := 0) rfl h
  · rintro ⟨d, h⟩
    induction d generalizing v with
    | zero => exact .inl (h : v = a).symm
    | succ d ih =>
      rcases h with q | ⟨u, q1, q2⟩
      · exact ih q
      · rcases ih q1 with rfl | k
        · exact .inr (.one q2)
        · exact .inr (k.trans (.one q2))
theorem frs_mem1 : ∀ (A M : List Nat) (x : Nat), x ∈ (frs M A).1 ↔ x ∈ A ∧ x ∉ M
  | [], M, x => by simp [frs]
  | v :: r, M, x => by
    rw [frs]
    by_cases h : v ∈ M
    · rw [if_pos h, frs_mem1 r M x, List.mem_cons]
      constructor
      · rintro ⟨q1, q2⟩
        exact ⟨.inr q1, q2⟩
      · rintro ⟨rfl | q1, q2⟩
        · exact absurd h q2
        · exact ⟨q1, q2⟩
    · rw [if_neg h]
      show x ∈ v :: (frs (v :: M) r).1 ↔ _
      rw [List.mem_cons, frs_mem1 r (v :: M) x, List.mem_cons, List.mem_cons]
      constructor
      · rintro (rfl | ⟨q1, q2⟩)
        · exact ⟨.inl rfl, h⟩
        · exact ⟨.inr q1, fun k => q2 (.inr k)⟩
      · rintro ⟨q1, q2⟩
        by_cases e : x = v
        · exact .inl e
        · exact .inr ⟨q1.resolve_left e, fun k => k.elim e q2⟩
theorem frs_nd1 : ∀ (A M : List Nat), (frs M A).1.Nodup
  | [], M => List.nodup_nil
  | v :: r, M => by
    rw [frs]
    by_cases h : v ∈ M
    · rw [if_pos h]
      exact frs_nd1 r M
    · rw [if_neg h]
      exact List.nodup_cons.2 ⟨fun k => ((frs_mem1 r (v :: M) v).1 k).2 (List.mem_cons_self ..), frs_nd1 r _⟩
theorem lyr_both : ∀ d, (∀ x, x ∈ (lyr F [a] d).2 ↔ Bl F a d x) ∧ ∀ x, x ∈ (lyr F [a] d).1 ↔ Ds F a d x
  | 0 => by
    have e : lyr F [a] 0 = ([a], [a]) := by simp [lyr, frs]
    rw [e]
    exact ⟨fun x => by simp [Bl], fun x => by rw [ds_zero]; simp⟩
  | d + 1 => by
    obtain ⟨h1, h2⟩ := lyr_both d
    have fm : ∀ x, x ∈ (srt (lyr F [a] d).1).flatMap F ↔ ∃ u, Ds F a d u ∧ x ∈ F u := fun x => by
      rw [List.mem_flatMap]
      exact ⟨fun ⟨u, q1, q2⟩ => ⟨u, (h2 u).1 ((srt_mem _ _).1 q1), q2⟩, fun ⟨u, q1, q2⟩ => ⟨u, (srt_mem _ _).2 ((h2 u).2 q1), q2⟩⟩
    refine ⟨fun x => ?_, fun x => ?_⟩
    · show x ∈ (frs (lyr F [a] d).2 ((srt (lyr F [a] d).1).flatMap F)).2 ↔ _
      rw [frs_mem, h1, fm]
      constructor
      · rintro (q | ⟨u, q1, q2⟩)
        · exact .inl q
        · exact .inr ⟨u, q1.1, q2⟩
      · rintro (q | ⟨u, q1, q2⟩)
        · exact .inl q
        · obtain ⟨e, he, k⟩ := q1.ds
          by_cases q : e = d
          · subst q
            exact .inr ⟨u, k, q2⟩
          · have k2 : Bl F a (e + 1) x := .inr ⟨u, k.1, q2⟩
            exact .inl (k2.mono (by omega))
    · show x ∈ (frs (lyr F [a] d).2 ((srt (lyr F [a] d).1).flatMap F)).1 ↔ _
      rw [frs_mem1, h1, fm]
      constructor
      · rintro ⟨⟨u, q1, q2⟩, q3⟩
        exact ⟨.inr ⟨u, q1.1, q2⟩, fun e he k => q3 (k.mono (by omega))⟩
      · intro h
        exact ⟨h.pred, h.2 d (by omega)⟩
theorem lyr_ds : x ∈ (lyr F [a] d).1 ↔ Ds F a d x := (lyr_both d).2 x
theorem lyr_nd1 (S : List Nat) : ∀ d, (lyr F S d).1.Nodup
  | 0 => frs_nd1 _ _
  | _ + 1 => frs_nd1 _ _
/-- Distances are less than the number of layers. -/
theorem ds_lt {K : Nat} (hK : (lyr F [a] K).1 = []) : ∀ d v, Ds F a d v → d < K
  | 0, v, h => by
    by_cases q : K = 0
    · subst q
      have := lyr_ds.2 h
      rw [hK] at this
      cases this
    · omega
  | d + 1, v, h => by
    obtain ⟨u, q1, -⟩ := h.pred
    have := ds_lt hK d u q1
    by_cases q : d + 1 = K
    · rw [q] at h
      have := lyr_ds.2 h
      rw [hK] at this
      cases this
    · omega
theorem eaL_mem {K : Nat} {p : Nat × Nat} : p ∈ eaL F [a] K ↔ p.2 < K ∧ Ds F a p.2 p.1 := by
  unfold eaL
  rw [List.mem_flatMap]
  constructor
  · rintro ⟨e, h1, h2⟩
    obtain ⟨v, h3, rfl⟩ := List.mem_map.1 h2
    exact ⟨List.mem_range.1 h1, lyr_ds.1 ((srt_mem _ _).1 h3)⟩
  · rintro ⟨h1, h2⟩
    exact ⟨p.2, List.mem_range.2 h1, List.mem_map.2 ⟨p.1, (srt_mem _ _).2 (lyr_ds.2 h2), rfl⟩⟩
theorem srt_nd {l : List Nat} (h : l.Nodup) : (srt l).Nodup := (List.mergeSort_perm l _).nodup_iff.2 h
theorem eaL_nd (K : Nat) : ((eaL F [a] K).map Prod.fst).Nodup := by
  induction K with
  | zero => exact List.nodup_nil
  | succ K ih =>
    rw [eaL_succ, List.map_append, List.nodup_append]
    have e : List.map Prod.fst ((srt (lyr F [a] K).1).map fun v => (v, K)) = srt (lyr F [a] K).1 := by
      rw [List.map_map]
      exact List.map_id _
    rw [e]
    refine ⟨ih, srt_nd (lyr_nd1 _ K), fun x hx y hy q => ?_⟩
    subst q
    obtain ⟨p, hp, rfl⟩ := List.mem_map.1 hx
    have h1 := eaL_mem.1 hp
    have h2 := lyr_ds.1 ((srt_mem _ _).1 hy)
    have := h1.2.uniq h2
    omega
theorem eaL_rise (K : Nat) : (eaL F [a] K).Pairwise fun p q => p.2 ≤ q.2 := by
  induction K with
  | zero => exact List.Pairwise.nil
  | succ K ih =>
    rw [eaL_succ, List.pairwise_append]
    refine ⟨ih, ?_, fun p hp q hq => ?_⟩
    · rw [List.pairwise_map]
      exact List.pairwise_of_forall (fun _ _ => Nat.le_refl _)
    · obtain ⟨v, -, rfl⟩ := List.mem_map.1 hq
      have := (eaL_mem.1 hp).1
      show p.2 ≤ K
      omega
theorem eaL_first {K : Nat} (hK : 0 < K) : (eaL F [a] K)[0]? = some (a, 0) := by
  obtain ⟨r, hr⟩ := eaL_pre (F := F) (S := [a]) 1 K (by omega)
  rw [hr, eaL_succ]
  have e : lyr F [a] 0 = ([a], [a]) := by simp [lyr, frs]
  rw [e]
  simp [eaL, srt]
theorem rise_eq : ∀ {l m : List Nat}, l.Pairwise (· < ·) → m.Pairwise (· < ·) → (∀ x, x ∈ l ↔ x ∈ m) → l = m
  | [], [], _, _, _ => rfl
  | [], y :: m, _, _, h => by have := (h y).2 (List.mem_cons_self ..); cases this
  | x :: l, [], _, _, h => by have := (h x).1 (List.mem_cons_self ..); cases this
  | x :: l, y :: m, hl, hm, h => by
    rw [List.pairwise_cons] at hl hm
    have e : x = y := by
      rcases List.mem_cons.1 ((h x).1 (List.mem_cons_self ..)) with q | q
      · exact q
      · rcases List.mem_cons.1 ((h y).2 (List.mem_cons_self ..)) with k | k
        · exact k.symm
        · have := hm.1 x q
          have := hl.1 y k
          omega
    subst e
    rw [rise_eq hl.2 hm.2 fun z => ?_]
    constructor
    · intro q
      rcases List.mem_cons.1 ((h z).1 (List.mem_cons_of_mem _ q)) with k | k
      · have := hl.1 z q
        omega
      · exact k
    · intro q
      rcases List.mem_cons.1 ((h z).2 (List.mem_cons_of_mem _ q)) with k | k
      · have := hm.1 z q
        omega
      · exact k
theorem srt_rise {l : List Nat} (h : l.Nodup) : (srt l).Pairwise (· < ·) := by
  have h1 : (srt l).Pairwise fun a b => decide (a ≤ b) = true := List.pairwise_mergeSort (fun a b c q k => by simp at *; omega) (fun a b => by simp; omega) l
  refine (h1.and (srt_nd h)).imp fun q => ?_
  have := of_decide_eq_true q.1
  have := q.2
  omega
theorem filter_rise (p : Nat → Bool) (N : Nat) : ((List.range N).filter p).Pairwise (· < ·) := List.Pairwise.filter _ List.pairwise_lt_range
/-- What Close answers. -/
theorem close_eq {K : Nat} (hK : (lyr F [a] K).1 = []) (ha : a < N) (hF : ∀ v, v < N → ∀ x ∈ F v, x < N) (p : Nat → Bool) (hp : ∀ v, v < N → (p v = true ↔ ∃ d, Bl F a d v)) : srt ((eaL F [a] K).map Prod.fst) = (List.range N).filter p := by
  refine rise_eq (srt_rise (eaL_nd K)) (filter_rise p N) fun x => ?_
  rw [srt_mem, List.mem_filter, List.mem_range, List.mem_map]
  constructor
  · rintro ⟨q, h1, rfl⟩
    have h2 := (eaL_mem.1 h1).2.1
    have h3 := bl_lt ha hF _ _ h2
    exact ⟨h3, (hp _ h3).2 ⟨_, h2⟩⟩
  · rintro ⟨h1, h2⟩
    obtain ⟨d, h3⟩ := (hp _ h1).1 h2
    obtain ⟨e, -, h4⟩ := h3.ds
    exact ⟨(x, e), eaL_mem.2 ⟨ds_lt hK _ _ h4, h4⟩, rfl⟩
/-- The place of a number among those that a test takes. -/
theorem filter_at (p : Nat → Bool) : ∀ N v, v < N → p v = true → ((List.range N).filter p)[((List.range v).filter p).length]? = some v := fun N v hv hp => by
  obtain ⟨m, rfl⟩ : ∃ m, N = v + 1 + m := ⟨N - (v + 1), by omega⟩
  rw [List.range_add, List.filter_append, List.range_succ, List.filter_append, List.append_assoc, List.getElem?_append_right (Nat.le_refl _), Nat.sub_self]
  simp [hp]
theorem filter_succ (p : Nat → Bool) (v : Nat) : ((List.range (v + 1)).filter p).length = ((List.range v).filter p).length + (if p v then 1 else 0) := by
  rw [List.range_succ, List.filter_append, List.length_append]
  by_cases h : p v <;> simp [h]
theorem filter_le (p : Nat → Bool) (N v : Nat) (h : v ≤ N) : ((List.range v).filter p).length ≤ ((List.range N).filter p).length := by
  obtain ⟨m, rfl⟩ : ∃ m, N = v + m := ⟨N - v, by omega⟩
  rw [List.range_add, List.filter_append, List.length_append]
  omega
/-- A path: each leads to the next. -/
def Chn (F : Nat → List Nat) : List Nat → Prop
  | [] => True
  | [_] => True
  | x :: y :: r => y ∈ F x ∧ Chn F (y :: r)
theorem Chn.get : ∀ {l : List Nat}, Chn F l → ∀ i, i + 1 < l.length → l.getD (i + 1) 0 ∈ F (l.getD i 0)
  | [], _, i, h => by simp at h
  | [_], _, i, h => by simp at h
  | x :: y :: r, h, 0, _ => h.1
  | x :: y :: r, h, i + 1, k => by
    have := Chn.get (l := y :: r) h.2 i (by simpa using k)
    simpa using this
end
end GM
end Go.Proofs.Ytgedmfcfhdfoeaa
