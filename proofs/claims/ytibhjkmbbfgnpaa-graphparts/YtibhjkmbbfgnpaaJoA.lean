/- Several texts in one: GyM, GzM, GzK, GyQ, GcM. -/
import Derived.Test.YtibhjkmbbfgnpaaGxF
import Derived.Test.YtibhjkmbbfgnpaaGlM
/- Graphs searched: distances (mathematics). -/
namespace Go.Proofs.Ytibhjkmbbfgnpaa
namespace GM
/-- Within d steps of a. -/
def Bl (F : Nat → List Nat) (a : Nat) : Nat → Nat → Prop
  | 0, v => v = a
  | d + 1, v => Bl F a d v ∨ ∃ u, Bl F a d u ∧ v ∈ F u
/-- At distance d. -/
def Ds (F : Nat → List Nat) (a d v : Nat) : Prop := Bl F a d v ∧ ∀ e, e < d → ¬ Bl F a e v
section
variable {F : Nat → List Nat} {a d e v u x N : Nat}
theorem Bl.mono (h : Bl F a d v) (hd : d ≤ e) : Bl F a e v := by
  induction e with
  | zero =>
    obtain rfl : d = 0 := by omega
    exact h
  | succ e ih =>
    by_cases q : d = e + 1
    · rw [← q]; exact h
    · exact .inl (ih (by omega))
theorem Ds.uniq (h : Ds F a d v) (k : Ds F a e v) : d = e := by
  rcases Nat.lt_trichotomy d e with q | q | q
  · exact absurd h.1 (k.2 d q)
  · exact q
  · exact absurd k.1 (h.2 e q)
theorem Bl.ds (h : Bl F a d v) : ∃ e, e ≤ d ∧ Ds F a e v := by
  obtain ⟨e, h1, h2, h3⟩ := least_of (p := fun e => Bl F a e v) d ⟨d, Nat.le_refl _, h⟩
  exact ⟨e, h1, h2, h3⟩
theorem Ds.pred (h : Ds F a (d + 1) v) : ∃ u, Ds F a d u ∧ v ∈ F u := by
  rcases h.1 with q | ⟨u, q1, q2⟩
  · exact absurd q (h.2 d (by omega))
  · refine ⟨u, ⟨q1, fun e he k => ?_⟩, q2⟩
    exact h.2 (e + 1) (by omega) (.inr ⟨u, k, q2⟩)
theorem Ds.next (h : Ds F a d u) (hx : v ∈ F u) : ∃ e, e ≤ d + 1 ∧ Ds F a e v := Bl.ds (d := d + 1) (.inr ⟨u, h.1, hx⟩)
theorem ds_zero : Ds F a 0 v ↔ v = a := ⟨fun h => h.1, fun h => ⟨h, fun e he => by omega⟩⟩
theorem Ds.le (h : Ds F a d v) (k : Bl F a e v) : d ≤ e := by
  by_cases q : d ≤ e
  · exact q
  · exact absurd k (h.2 e (by omega))
theorem bl_lt (ha : a < N) (hF : ∀ v, v < N → ∀ x ∈ F v, x < N) : ∀ d v, Bl F a d v → v < N
  | 0, v, h => by
    have h : v = a := h
    omega
  | d + 1, v, h => by
    rcases h with q | ⟨u, q1, q2⟩
    · exact bl_lt ha hF d v q
    · exact hF u (bl_lt ha hF d u q1) v q2
theorem tg_bl (h : Bl F a d u) {v : Nat} (k : Gl.TG F u v) : ∃ e, Bl F a e v := by
  induction k generalizing d with
  | one q => exact ⟨d + 1, .inr ⟨_, h, q⟩⟩
  | more q _ ih => exact ih (d := d + 1) (.inr ⟨_, h, q⟩)
/-- What is reached. -/
theorem reach_iff : (a = v ∨ Gl.TG F a v) ↔ ∃ d, Bl F a d v := by
  constructor
  · rintro (rfl | h)
    · exact ⟨0, rfl⟩
    · exact tg_bl (d := 0) rfl h
  · rintro ⟨d, h⟩
    induction d generalizing v with
    | zero => exact .inl (h : v = a).symm
    | succ d ih =>
      rcases h with q | ⟨u, q1, q2⟩
      · exact ih q
      · rcases ih q1 with rfl | k
        · exact .inr (.one q2)
        · exact .inr (k.trans (.one q2))
theorem frs_mem1 : ∀ (A M : List Nat) (x : Nat), x ∈ (frs M A).1 ↔ x ∈ A ∧ x ∉ M
  | [], M, x => by simp [frs]
  | v :: r, M, x => by
    rw [frs]
    by_cases h : v ∈ M
    · rw [if_pos h, frs_mem1 r M x, List.mem_cons]
      constructor
      · rintro ⟨q1, q2⟩
        exact ⟨.inr q1, q2⟩
      · rintro ⟨rfl | q1, q2⟩
        · exact absurd h q2
        · exact ⟨q1, q2⟩
    · rw [if_neg h]
      show x ∈ v :: (frs (v :: M) r).1 ↔ _
      rw [List.mem_cons, frs_mem1 r (v :: M) x, List.mem_cons, List.mem_cons]
      constructor
      · rintro (rfl | ⟨q1, q2⟩)
        · exact ⟨.inl rfl, h⟩
        · exact ⟨.inr q1, fun k => q2 (.inr k)⟩
      · rintro ⟨q1, q2⟩
        by_cases e : x = v
        · exact .inl e
        · exact .inr ⟨q1.resolve_left e, fun k => k.elim e q2⟩
theorem frs_nd1 : ∀ (A M : List Nat), (frs M A).1.Nodup
  | [], M => List.nodup_nil
  | v :: r, M => by
    rw [frs]
    by_cases h : v ∈ M
    · rw [if_pos h]
      exact frs_nd1 r M
    · rw [if_neg h]
      exact List.nodup_cons.2 ⟨fun k => ((frs_mem1 r (v :: M) v).1 k).2 (List.mem_cons_self ..), frs_nd1 r _⟩
theorem lyr_both : ∀ d, (∀ x, x ∈ (lyr F [a] d).2 ↔ Bl F a d x) ∧ ∀ x, x ∈ (lyr F [a] d).1 ↔ Ds F a d x
  | 0 => by
    have e : lyr F [a] 0 = ([a], [a]) := by simp [lyr, frs]
    rw [e]
    exact ⟨fun x => by simp [Bl], fun x => by rw [ds_zero]; simp⟩
  | d + 1 => by
    obtain ⟨h1, h2⟩ := lyr_both d
    have fm : ∀ x, x ∈ (srt (lyr F [a] d).1).flatMap F ↔ ∃ u, Ds F a d u ∧ x ∈ F u := fun x => by
      rw [List.mem_flatMap]
      exact ⟨fun ⟨u, q1, q2⟩ => ⟨u, (h2 u).1 ((srt_mem _ _).1 q1), q2⟩, fun ⟨u, q1, q2⟩ => ⟨u, (srt_mem _ _).2 ((h2 u).2 q1), q2⟩⟩
    refine ⟨fun x => ?_, fun x => ?_⟩
    · show x ∈ (frs (lyr F [a] d).2 ((srt (lyr F [a] d).1).flatMap F)).2 ↔ _
      rw [frs_mem, h1, fm]
      constructor
      · rintro (q | ⟨u, q1, q2⟩)
        · exact .inl q
        · exact .inr ⟨u, q1.1, q2⟩
      · rintro (q | ⟨u, q1, q2⟩)
        · exact .inl q
        · obtain ⟨e, he, k⟩ := q1.ds
          by_cases q : e = d
          · subst q
            exact .inr ⟨u, k, q2⟩
          · have k2 : Bl F a (e + 1) x := .inr ⟨u, k.1, q2⟩
            exact .inl (k2.mono (by omega))
    · show x ∈ (frs (lyr F [a] d).2 ((srt (lyr F [a] d).1).flatMap F)).1 ↔ _
      rw [frs_mem1, h1, fm]
      constructor
      · rintro ⟨⟨u, q1, q2⟩, q3⟩
        exact ⟨.inr ⟨u, q1.1, q2⟩, fun e he k => q3 (k.mono (by omega))⟩
      · intro h
        exact ⟨h.pred, h.2 d (by omega)⟩
theorem lyr_ds : x ∈ (lyr F [a] d).1 ↔ Ds F a d x := (lyr_both d).2 x
theorem lyr_nd1 (S : List Nat) : ∀ d, (lyr F S d).1.Nodup
  | 0 => frs_nd1 _ _
  | _ + 1 => frs_nd1 _ _
/-- Distances are less than the number of layers. -/
theorem ds_lt {K : Nat} (hK : (lyr F [a] K).1 = []) : ∀ d v, Ds F a d v → d < K
  | 0, v, h => by
    by_cases q : K = 0
    · subst q
      have := lyr_ds.2 h
      rw [hK] at this
      cases this
    · omega
  | d + 1, v, h => by
    obtain ⟨u, q1, -⟩ := h.pred
    have := ds_lt hK d u q1
    by_cases q : d + 1 = K
    · rw [q] at h
      have := lyr_ds.2 h
      rw [hK] at this
      cases this
    · omega
theorem eaL_mem {K : Nat} {p : Nat × Nat} : p ∈ eaL F [a] K ↔ p.2 < K ∧ Ds F a p.2 p.1 := by
  unfold eaL
  rw [List.mem_flatMap]
  constructor
  · rintro ⟨e, h1, h2⟩
    obtain ⟨v, h3, rfl⟩ := List.mem_map.1 h2
    exact ⟨List.mem_range.1 h1, lyr_ds.1 ((srt_mem _ _).1 h3)⟩
  · rintro ⟨h1, h2⟩
    exact ⟨p.2, List.mem_range.2 h1, List.mem_map.2 ⟨p.1, (srt_mem _ _).2 (lyr_ds.2 h2), rfl⟩⟩
theorem srt_nd {l : List Nat} (h : l.Nodup) : (srt l).Nodup := (List.mergeSort_perm l _).nodup_iff.2 h
theorem eaL_nd (K : Nat) : ((eaL F [a] K).map Prod.fst).Nodup := by
  induction K with
  | zero => exact List.nodup_nil
  | succ K ih =>
    rw [eaL_succ, List.map_append, List.nodup_append]
    have e : List.map Prod.fst ((srt (lyr F [a] K).1).map fun v => (v, K)) = srt (lyr F [a] K).1 := by
      rw [List.map_map]
      exact List.map_id _
    rw [e]
    refine ⟨ih, srt_nd (lyr_nd1 _ K), fun x hx y hy q => ?_⟩
    subst q
    obtain ⟨p, hp, rfl⟩ := List.mem_map.1 hx
    have h1 := eaL_mem.1 hp
    have h2 := lyr_ds.1 ((srt_mem _ _).1 hy)
    have := h1.2.uniq h2
    omega
theorem eaL_rise (K : Nat) : (eaL F [a] K).Pairwise fun p q => p.2 ≤ q.2 := by
  induction K with
  | zero => exact List.Pairwise.nil
  | succ K ih =>
    rw [eaL_succ, List.pairwise_append]
    refine ⟨ih, ?_, fun p hp q hq => ?_⟩
    · rw [List.pairwise_map]
      exact List.pairwise_of_forall (fun _ _ => Nat.le_refl _)
    · obtain ⟨v, -, rfl⟩ := List.mem_map.1 hq
      have := (eaL_mem.1 hp).1
      show p.2 ≤ K
      omega
theorem eaL_first {K : Nat} (hK : 0 < K) : (eaL F [a] K)[0]? = some (a, 0) := by
  obtain ⟨r, hr⟩ := eaL_pre (F := F) (S := [a]) 1 K (by omega)
  rw [hr, eaL_succ]
  have e : lyr F [a] 0 = ([a], [a]) := by simp [lyr, frs]
  rw [e]
  simp [eaL, srt]
theorem rise_eq : ∀ {l m : List Nat}, l.Pairwise (· < ·) → m.Pairwise (· < ·) → (∀ x, x ∈ l ↔ x ∈ m) → l = m
  | [], [], _, _, _ => rfl
  | [], y :: m, _, _, h => by have := (h y).2 (List.mem_cons_self ..); cases this
  | x :: l, [], _, _, h => by have := (h x).1 (List.mem_cons_self ..); cases this
  | x :: l, y :: m, hl, hm, h => by
    rw [List.pairwise_cons] at hl hm
    have e : x = y := by
      rcases List.mem_cons.1 ((h x).1 (List.mem_cons_self ..)) with q | q
      · exact q
      · rcases List.mem_cons.1 ((h y).2 (List.mem_cons_self ..)) with k | k
        · exact k.symm
        · have := hm.1 x q
          have := hl.1 y k
          omega
    subst e
    rw [rise_eq hl.2 hm.2 fun z => ?_]
    constructor
    · intro q
      rcases List.mem_cons.1 ((h z).1 (List.mem_cons_of_mem _ q)) with k | k
      · have := hl.1 z q
        omega
      · exact k
    · intro q
      rcases List.mem_cons.1 ((h z).2 (List.mem_cons_of_mem _ q)) with k | k
      · have := hm.1 z q
        omega
      · exact k
theorem srt_rise {l : List Nat} (h : l.Nodup) : (srt l).Pairwise (· < ·) := by
  have h1 : (srt l).Pairwise fun a b => decide (a ≤ b) = true := List.pairwise_mergeSort (fun a b c q k => by simp at *; omega) (fun a b => by simp; omega) l
  refine (h1.and (srt_nd h)).imp fun q => ?_
  have := of_decide_eq_true q.1
  have := q.2
  omega
theorem filter_rise (p : Nat → Bool) (N : Nat) : ((List.range N).filter p).Pairwise (· < ·) := List.Pairwise.filter _ List.pairwise_lt_range
/-- What Close answers. -/
theorem close_eq {K : Nat} (hK : (lyr F [a] K).1 = []) (ha : a < N) (hF : ∀ v, v < N → ∀ x ∈ F v, x < N) (p : Nat → Bool) (hp : ∀ v, v < N → (p v = true ↔ ∃ d, Bl F a d v)) : srt ((eaL F [a] K).map Prod.fst) = (List.range N).filter p := by
  refine rise_eq (srt_rise (eaL_nd K)) (filter_rise p N) fun x => ?_
  rw [srt_mem, List.mem_filter, List.mem_range, List.mem_map]
  constructor
  · rintro ⟨q, h1, rfl⟩
    have h2 := (eaL_mem.1 h1).2.1
    have h3 := bl_lt ha hF _ _ h2
    exact ⟨h3, (hp _ h3).2 ⟨_, h2⟩⟩
  · rintro ⟨h1, h2⟩
    obtain ⟨d, h3⟩ := (hp _ h1).1 h2
    obtain ⟨e, -, h4⟩ := h3.ds
    exact ⟨(x, e), eaL_mem.2 ⟨ds_lt hK _ _ h4, h4⟩, rfl⟩
/-- The place of a number among those that a test takes. -/
theorem filter_at (p : Nat → Bool) : ∀ N v, v < N → p v = true → ((List.range N).filter p)[((List.range v).filter p).length]? = some v := fun N v hv hp => by
  obtain ⟨m, rfl⟩ : ∃ m, N = v + 1 + m := ⟨N - (v + 1), by omega⟩
  rw [List.range_add, List.filter_append, List.range_succ, List.filter_append, List.append_assoc, List.getElem?_append_right (Nat.le_refl _), Nat.sub_self]
  simp [hp]
theorem filter_succ (p : Nat → Bool) (v : Nat) : ((List.range (v + 1)).filter p).length = ((List.range v).filter p).length + (if p v then 1 else 0) := by
  rw [List.range_succ, List.filter_append, List.length_append]
  by_cases h : p v <;> simp [h]
theorem filter_le (p : Nat → Bool) (N v : Nat) (h : v ≤ N) : ((List.range v).filter p).length ≤ ((List.range N).filter p).length := by
  obtain ⟨m, rfl⟩ : ∃ m, N = v + m := ⟨N - v, by omega⟩
  rw [List.range_add, List.filter_append, List.length_append]
  omega
/-- A path: each leads to the next. -/
def Chn (F : Nat → List Nat) : List Nat → Prop
  | [] => True
  | [_] => True
  | x :: y :: r => y ∈ F x ∧ Chn F (y :: r)
theorem Chn.get : ∀ {l : List Nat}, Chn F l → ∀ i, i + 1 < l.length → l.getD (i + 1) 0 ∈ F (l.getD i 0)
  | [], _, i, h => by simp at h
  | [_], _, i, h => by simp at h
  | x :: y :: r, h, 0, _ => h.1
  | x :: y :: r, h, i + 1, k => by
    have := Chn.get (l := y :: r) h.2 i (by simpa using k)
    simpa using this
end
end GM
end Go.Proofs.Ytibhjkmbbfgnpaa

/- Graphs: strongly connected parts (mathematics). -/
namespace Go.Proofs.Ytibhjkmbbfgnpaa
namespace GM
/-- u leads to v. -/
def Rc (F : Nat → List Nat) (u v : Nat) : Prop := ∃ d, Bl F u d v
section
variable {F G : Nat → List Nat} {u v x y a N : Nat}
theorem Rc.refl (F : Nat → List Nat) (u : Nat) : Rc F u u := ⟨0, rfl⟩
theorem Rc.step (h : Rc F u v) (hx : x ∈ F v) : Rc F u x := by
  obtain ⟨d, h⟩ := h
  exact ⟨d + 1, .inr ⟨v, h, hx⟩⟩
theorem Rc.ind {P : Nat → Prop} (h : Rc F u v) (h0 : P u) (hs : ∀ x y, Rc F u x → P x → y ∈ F x → P y) : P v := by
  obtain ⟨d, h⟩ := h
  induction d generalizing v with
  | zero =>
    have h : v = u := h
    rw [h]
    exact h0
  | succ d ih =>
    rcases h with q | ⟨x, q1, q2⟩
    · exact ih q
    · exact hs x v ⟨d, q1⟩ (ih q1) q2
theorem Rc.trans (h : Rc F u v) (k : Rc F v x) : Rc F u x := k.ind h fun _ _ _ q hy => q.step hy
theorem Rc.one (hx : x ∈ F u) : Rc F u x := (Rc.refl F u).step hx
theorem Rc.lt (h : Rc F u v) (hu : u < N) (hF : ∀ v, v < N → ∀ x ∈ F v, x < N) : v < N := by
  obtain ⟨d, h⟩ := h
  exact bl_lt hu hF d v h
/-- The other way round. -/
theorem Rc.turn (hG : ∀ x y, y ∈ F x → x ∈ G y) (h : Rc F u v) : Rc G v u := h.ind (P := fun v => Rc G v u) (Rc.refl G u) fun _ _ _ q hy => (Rc.one (hG _ _ hy)).trans q
theorem rc_turn (hG : ∀ x y, y ∈ F x ↔ x ∈ G y) : Rc F u v ↔ Rc G v u := ⟨Rc.turn fun x y => (hG x y).1, Rc.turn fun x y h => (hG y x).2 h⟩
end
/-- v stands at w or ahead of it. -/
def Bef (L : List Nat) (v w : Nat) : Prop := ∃ A B, L = A ++ w :: B ∧ (v ∈ A ∨ v = w)
theorem Bef.app {L : List Nat} {v w : Nat} (h : Bef L v w) (R : List Nat) : Bef (L ++ R) v w := by
  obtain ⟨A, B, rfl, h⟩ := h
  exact ⟨A, B ++ R, by simp, h⟩
theorem bef_last {L : List Nat} {v w : Nat} (h : v ∈ L ∨ v = w) : Bef (L ++ [w]) v w := ⟨L, [], by simp, h⟩
theorem bef_join {L R : List Nat} {v w : Nat} (h : v ∈ L) (k : w ∈ R) : Bef (L ++ R) v w := by
  obtain ⟨A, B, rfl⟩ := List.append_of_mem k
  exact ⟨L ++ A, B, by simp, .inl (List.mem_append.2 (.inl h))⟩
theorem Bef.pre {L R : List Nat} {v w : Nat} (h : Bef R v w) : Bef (L ++ R) v w := by
  obtain ⟨A, B, rfl, h⟩ := h
  exact ⟨L ++ A, B, by simp, h.imp (fun q => List.mem_append.2 (.inr q)) id⟩
theorem Bef.cut {P Q : List Nat} {v w : Nat} (h : Bef (P ++ v :: Q) v w) (hn : (P ++ v :: Q).Nodup) : w = v ∨ w ∈ Q := by
  obtain ⟨A, B, e, h⟩ := h
  rcases h with h | h
  · rcases List.append_eq_append_iff.1 e with ⟨C, e1, e2⟩ | ⟨C, e1, e2⟩
    · cases C with
      | nil =>
        simp at e2
        exact .inl e2.1.symm
      | cons c C =>
        simp at e2
        exact .inr (by rw [e2.2]; simp)
    · exfalso
      rw [e, List.nodup_append] at hn
      cases C with
      | nil =>
        simp at e2
        exact hn.2.2 v h w (List.mem_cons_self ..) e2.1.symm
      | cons c C =>
        simp at e2
        refine hn.2.2 v h v (List.mem_cons_of_mem _ ?_) rfl
        rw [e2.2]
        simp
  · exact .inl h.symm
/-- A search that goes deep: L has ended, S is under way (the last one is looked at), of each what is not looked at yet. -/
structure Ad (F : Nat → List Nat) (M0 : Nat → Prop) (a : Nat) (L : List Nat) (S : List (Nat × List Nat)) : Prop where
  nd : (L ++ S.map Prod.fst).Nodup
  n0 : ∀ x, x ∈ L ∨ x ∈ S.map Prod.fst → ¬ M0 x
  rch : ∀ x, x ∈ L ∨ x ∈ S.map Prod.fst → Rc F a x
  at0 : a ∈ L ∨ a ∈ S.map Prod.fst
  sc : ∀ u, u ∈ L → ∀ x, x ∈ F u → M0 x ∨ x ∈ L ∨ x ∈ S.map Prod.fst
  sr : ∀ p, p ∈ S → (∀ x, x ∈ p.2 → x ∈ F p.1) ∧ ∀ x, x ∈ F p.1 → (M0 x ∨ x ∈ L ∨ x ∈ S.map Prod.fst) ∨ x ∈ p.2
  ch : S.Pairwise fun p q => Rc F p.1 q.1
  ix : ∀ u, u ∈ L → ∀ v, Rc F u v → M0 v ∨ (∃ w, w ∈ L ∧ Rc F u w ∧ Rc F w u ∧ Bef L v w) ∨ ∃ s, s ∈ S.map Prod.fst ∧ Rc F u s ∧ Rc F s u
section
variable {F : Nat → List Nat} {M0 : Nat → Prop} {a s x N : Nat} {L r : List Nat} {S : List (Nat × List Nat)}
theorem ad_zero (h : ¬ M0 a) : Ad F M0 a [] [(a, F a)] where
  nd := by simp
  n0 := fun x hx => by
    have : x = a := by simpa using hx
    rw [this]
    exact h
  rch := fun x hx => by
    have : x = a := by simpa using hx
    rw [this]
    exact Rc.refl F a
  at0 := .inr (by simp)
  sc := fun u hu => by cases hu
  sr := fun p hp => by
    have := List.mem_singleton.1 hp
    subst this
    exact ⟨fun x hx => hx, fun x hx => .inr hx⟩
  ch := by simp
  ix := fun u hu => by cases hu
theorem Ad.len (h : Ad F M0 a L S) (ha : a < N) (hF : ∀ v, v < N → ∀ x ∈ F v, x < N) : L.length + S.length ≤ N := by
  have := nodup_len N _ h.nd fun x hx => (h.rch x (List.mem_append.1 hx)).lt ha hF
  simpa using this
/-- The last one has ended. -/
theorem Ad.pop (hM : ∀ u, M0 u → ∀ x, x ∈ F u → M0 x) (h : Ad F M0 a L (S ++ [(s, [])])) : Ad F M0 a (L ++ [s]) S := by
  have e : (S ++ [(s, ([] : List Nat))]).map Prod.fst = S.map Prod.fst ++ [s] := by simp
  have mv : ∀ x, (x ∈ L ++ [s] ∨ x ∈ S.map Prod.fst) ↔ (x ∈ L ∨ x ∈ (S ++ [(s, ([] : List Nat))]).map Prod.fst) := fun x => by
    rw [e, List.mem_append, List.mem_append]
    constructor
    · rintro ((q | q) | q)
      · exact .inl q
      · exact .inr (.inr q)
      · exact .inr (.inl q)
    · rintro (q | q | q)
      · exact .inl (.inl q)
      · exact .inr q
      · exact .inl (.inr q)
  have hs := (h.sr (s, []) (by simp)).2
  have ch := h.ch
  rw [List.pairwise_append] at ch
  -- where s leads to
  have way : ∀ v, Rc F s v → M0 v ∨ v ∈ L ++ [s] ∨ ∃ t, t ∈ S.map Prod.fst ∧ Rc F s t ∧ Rc F t s := fun v hv => by
    refine hv.ind (P := fun v => M0 v ∨ v ∈ L ++ [s] ∨ ∃ t, t ∈ S.map Prod.fst ∧ Rc F s t ∧ Rc F t s) (.inr (.inl (by simp))) fun y z hy hp hz => ?_
    rcases hp with q | q | q
    · exact .inl (hM y q z hz)
    · have k : M0 z ∨ z ∈ L ∨ z ∈ (S ++ [(s, ([] : List Nat))]).map Prod.fst := by
        rcases List.mem_append.1 q with q | q
        · exact h.sc y q z hz
        · rw [List.mem_singleton.1 q] at hz
          rcases hs z hz with q | q
          · exact q
          · cases q
      rcases k with k | k
      · exact .inl k
      · rcases (mv z).2 k with k | k
        · exact .inr (.inl k)
        · obtain ⟨p, hp, e2⟩ := List.mem_map.1 k
          refine .inr (.inr ⟨z, k, hy.step hz, ?_⟩)
          rw [← e2]
          exact ch.2.2 p hp (s, []) (by simp)
    · exact .inr (.inr q)
  refine ⟨?_, fun x hx => h.n0 x ((mv x).1 hx), fun x hx => h.rch x ((mv x).1 hx), (mv a).2 h.at0, fun u hu z hz => ?_, fun p hp => ?_, ch.1, fun u hu v hv => ?_⟩
  · have nd := h.nd
    rw [e, ← List.append_assoc] at nd
    refine (List.Perm.nodup_iff ?_).1 nd
    rw [List.append_assoc, List.append_assoc]
    exact List.Perm.append_left L List.perm_append_comm
  · rcases List.mem_append.1 hu with q | q
    · exact (h.sc u q z hz).imp id (mv z).2
    · rw [List.mem_singleton.1 q] at hz
      rcases hs z hz with q | q
      · exact q.imp id (mv z).2
      · cases q
  · obtain ⟨h1, h2⟩ := h.sr p (by simp [hp])
    exact ⟨h1, fun z hz => (h2 z hz).imp (fun q => q.imp id (mv z).2) id⟩
  · have main : Rc F u s → Rc F s u → M0 v ∨ (∃ w, w ∈ L ++ [s] ∧ Rc F u w ∧ Rc F w u ∧ Bef (L ++ [s]) v w) ∨ ∃ t, t ∈ S.map Prod.fst ∧ Rc F u t ∧ Rc F t u := fun h1 h2 => by
      rcases way v (h2.trans hv) with q | q | ⟨t, q1, q2, q3⟩
      · exact .inl q
      · refine .inr (.inl ⟨s, by simp, h1, h2, bef_last ?_⟩)
        rcases List.mem_append.1 q with q | q
        · exact .inl q
        · exact .inr (List.mem_singleton.1 q)
      · exact .inr (.inr ⟨t, q1, h1.trans q2, q3.trans h2⟩)
    rcases List.mem_append.1 hu with q | q
    · rcases h.ix u q v hv with k | ⟨w, k1, k2, k3, k4⟩ | ⟨t, k1, k2, k3⟩
      · exact .inl k
      · exact .inr (.inl ⟨w, List.mem_append.2 (.inl k1), k2, k3, k4.app _⟩)
      · rw [e] at k1
        rcases List.mem_append.1 k1 with k1 | k1
        · exact .inr (.inr ⟨t, k1, k2, k3⟩)
        · rw [List.mem_singleton.1 k1] at k2 k3
          exact main k2 k3
    · rw [List.mem_singleton.1 q]
      rw [List.mem_singleton.1 q] at hv main
      exact main (Rc.refl F s) (Rc.refl F s)
theorem map_last (S : List (Nat × List Nat)) (s : Nat) (r r' : List Nat) : (S ++ [(s, r)]).map Prod.fst = (S ++ [(s, r')]).map Prod.fst := by simp
/-- A need that is marked. -/
theorem Ad.skip (h : Ad F M0 a L (S ++ [(s, x :: r)])) (hx : M0 x ∨ x ∈ L ∨ x ∈ (S ++ [(s, r)]).map Prod.fst) : Ad F M0 a L (S ++ [(s, r)]) := by
  have e := map_last S s (x :: r) r
  refine ⟨by rw [← e]; exact h.nd, by rw [← e]; exact h.n0, by rw [← e]; exact h.rch, by rw [← e]; exact h.at0, by rw [← e]; exact h.sc, fun p hp => ?_, ?_, by rw [← e]; exact h.ix⟩
  · rcases List.mem_append.1 hp with q | q
    · obtain ⟨h1, h2⟩ := h.sr p (by simp [q])
      rw [e] at h2
      exact ⟨h1, h2⟩
    · have q := List.mem_singleton.1 q
      subst q
      obtain ⟨h1, h2⟩ := h.sr (s, x :: r) (by simp)
      refine ⟨fun z hz => h1 z (List.mem_cons_of_mem _ hz), fun z hz => ?_⟩
      rw [e] at h2
      rcases h2 z hz with q | q
      · exact .inl q
      · rcases List.mem_cons.1 q with q | q
        · rw [q]; exact .inl hx
        · exact .inr q
  · have ch := h.ch
    rw [List.pairwise_append] at ch ⊢
    exact ⟨ch.1, by simp, fun p hp q hq => by
      have := List.mem_singleton.1 hq
      subst this
      exact ch.2.2 p hp (s, x :: r) (by simp)⟩
/-- A need that is new. -/
theorem Ad.push (h : Ad F M0 a L (S ++ [(s, x :: r)])) (hx : ¬ (M0 x ∨ x ∈ L ∨ x ∈ (S ++ [(s, r)]).map Prod.fst)) : Ad F M0 a L ((S ++ [(s, r)]) ++ [(x, F x)]) := by
  have e := map_last S s (x :: r) r
  have e2 : ((S ++ [(s, r)]) ++ [(x, F x)]).map Prod.fst = (S ++ [(s, r)]).map Prod.fst ++ [x] := by simp
  have hxF : x ∈ F s := (h.sr (s, x :: r) (by simp)).1 x (by simp)
  have hsr : Rc F a s := h.rch s (.inr (by simp))
  have up : ∀ z, (M0 z ∨ z ∈ L ∨ z ∈ (S ++ [(s, x :: r)]).map Prod.fst) → M0 z ∨ z ∈ L ∨ z ∈ ((S ++ [(s, r)]) ++ [(x, F x)]).map Prod.fst := fun z hz => by
    rw [e] at hz
    rw [e2]
    exact hz.imp id fun q => q.imp id fun q => List.mem_append.2 (.inl q)
  have dn : ∀ z, (z ∈ L ∨ z ∈ ((S ++ [(s, r)]) ++ [(x, F x)]).map Prod.fst) → (z ∈ L ∨ z ∈ (S ++ [(s, x :: r)]).map Prod.fst) ∨ z = x := fun z hz => by
    rw [e2] at hz
    rw [e]
    rcases hz with q | q
    · exact .inl (.inl q)
    · rcases List.mem_append.1 q with q | q
      · exact .inl (.inr q)
      · exact .inr (List.mem_singleton.1 q)
  refine ⟨?_, fun z hz => ?_, fun z hz => ?_, (up a (.inr h.at0)).resolve_left (h.n0 a h.at0), fun u hu z hz => up z (h.sc u hu z hz), fun p hp => ?_, ?_, fun u hu v hv => ?_⟩
  · rw [e2, ← List.append_assoc, ← e, List.nodup_append]
    refine ⟨h.nd, by simp, fun y hy z hz => ?_⟩
    rw [List.mem_singleton.1 hz]
    intro q
    subst q
    rw [e] at hy
    exact hx (.inr (List.mem_append.1 hy))
  · rcases dn z hz with q | q
    · exact h.n0 z q
    · rw [q]
      exact fun k => hx (.inl k)
  · rcases dn z hz with q | q
    · exact h.rch z q
    · rw [q]
      exact hsr.step hxF
  · rcases List.mem_append.1 hp with q | q
    · rcases List.mem_append.1 q with q | q
      · obtain ⟨h1, h2⟩ := h.sr p (by simp [q])
        exact ⟨h1, fun z hz => (h2 z hz).imp (up z) id⟩
      · have q := List.mem_singleton.1 q
        subst q
        obtain ⟨h1, h2⟩ := h.sr (s, x :: r) (by simp)
        refine ⟨fun z hz => h1 z (List.mem_cons_of_mem _ hz), fun z hz => ?_⟩
        rcases h2 z hz with q | q
        · exact .inl (up z q)
        · rcases List.mem_cons.1 q with q | q
          · rw [q, e2]; exact .inl (.inr (.inr (by simp)))
          · exact .inr q
    · have q := List.mem_singleton.1 q
      subst q
      exact ⟨fun z hz => hz, fun z hz => .inr hz⟩
  · have ch := h.ch
    rw [List.pairwise_append] at ch
    have chs : (S ++ [(s, r)]).Pairwise fun p q => Rc F p.1 q.1 := by
      rw [List.pairwise_append]
      exact ⟨ch.1, by simp, fun p hp q hq => by
        have := List.mem_singleton.1 hq
        subst this
        exact ch.2.2 p hp (s, x :: r) (by simp)⟩
    rw [List.pairwise_append]
    refine ⟨chs, by simp, fun p hp q hq => ?_⟩
    have := List.mem_singleton.1 hq
    subst this
    show Rc F p.1 x
    rcases List.mem_append.1 hp with k | k
    · exact (ch.2.2 p k (s, x :: r) (by simp)).step hxF
    · have := List.mem_singleton.1 k
      subst this
      exact Rc.one hxF
  · rcases h.ix u hu v hv with k | k | ⟨t, k1, k2⟩
    · exact .inl k
    · exact .inr (.inl k)
    · refine .inr (.inr ⟨t, ?_, k2⟩)
      rw [e2]
      rw [e] at k1
      exact List.mem_append.2 (.inl k1)
/-- What a search has ended with. -/
structure Ae (F : Nat → List Nat) (M0 : Nat → Prop) (a : Nat) (L : List Nat) : Prop where
  nd : L.Nodup
  mem : ∀ x, x ∈ L ↔ Rc F a x ∧ ¬ M0 x
  ix : ∀ u, u ∈ L → ∀ v, Rc F u v → M0 v ∨ ∃ w, w ∈ L ∧ Rc F u w ∧ Rc F w u ∧ Bef L v w
theorem Ad.done (hM : ∀ u, M0 u → ∀ x, x ∈ F u → M0 x) (h : Ad F M0 a L []) : Ae F M0 a L := by
  have h0 := h.at0
  simp at h0
  refine ⟨by simpa using h.nd, fun x => ⟨fun hx => ⟨h.rch x (.inl hx), h.n0 x (.inl hx)⟩, fun ⟨hx, hn⟩ => ?_⟩, fun u hu v hv => ?_⟩
  · have : M0 x ∨ x ∈ L := hx.ind (P := fun x => M0 x ∨ x ∈ L) (.inr h0) fun y z _ hy hz => by
      rcases hy with q | q
      · exact .inl (hM y q z hz)
      · have := h.sc y q z hz
        simpa using this
    exact this.resolve_left hn
  · have := h.ix u hu v hv
    simpa using this
theorem ae_none {a : Nat} (hM : ∀ u, M0 u → ∀ x, x ∈ F u → M0 x) (h : M0 a) : Ae F M0 a [] := by
  refine ⟨List.nodup_nil, fun x => ⟨fun hx => (by cases hx), fun ⟨hx, hn⟩ => ?_⟩, fun u hu => (by cases hu)⟩
  exact absurd (hx.ind (P := M0) h fun y z _ hy hz => hM y hy z hz) hn
end
end GM
end Go.Proofs.Ytibhjkmbbfgnpaa

/- Graphs: strongly connected parts: one search behind the other (mathematics). -/
namespace Go.Proofs.Ytibhjkmbbfgnpaa
namespace GM
/-- What has ended, in order. -/
structure Ke (F : Nat → List Nat) (N : Nat) (E : List Nat) : Prop where
  nd : E.Nodup
  lt : ∀ x, x ∈ E → x < N
  cl : ∀ u, u ∈ E → ∀ x, x ∈ F u → x ∈ E
  ix : ∀ u, u ∈ E → ∀ v, Rc F u v → ∃ w, w ∈ E ∧ Rc F u w ∧ Rc F w u ∧ Bef E v w
section
variable {F G : Nat → List Nat} {N a v : Nat} {E L P Q : List Nat} {Ps : List (List Nat)} {M : Nat → Prop}
theorem ke_zero (F : Nat → List Nat) (N : Nat) : Ke F N [] := ⟨List.nodup_nil, fun x h => (by cases h), fun u h => (by cases h), fun u h => (by cases h)⟩
theorem Ke.rc (h : Ke F N E) {u v : Nat} (hu : u ∈ E) (hv : Rc F u v) : v ∈ E := hv.ind hu fun x y _ hx hy => h.cl x hx y hy
theorem Ke.add (h : Ke F N E) (hF : ∀ v, v < N → ∀ x ∈ F v, x < N) (ha : a < N) (hL : Ae F (fun x => x ∈ E) a L) : Ke F N (E ++ L) ∧ a ∈ E ++ L := by
  have mem : ∀ x, Rc F a x → x ∈ E ++ L := fun x hx => by
    by_cases q : x ∈ E
    · exact List.mem_append.2 (.inl q)
    · exact List.mem_append.2 (.inr ((hL.mem x).2 ⟨hx, q⟩))
  refine ⟨⟨?_, fun x hx => ?_, fun u hu x hx => ?_, fun u hu w hw => ?_⟩, mem a (Rc.refl F a)⟩
  · rw [List.nodup_append]
    refine ⟨h.nd, hL.nd, fun x hx y hy e => ?_⟩
    subst e
    exact ((hL.mem x).1 hy).2 hx
  · rcases List.mem_append.1 hx with q | q
    · exact h.lt x q
    · exact ((hL.mem x).1 q).1.lt ha hF
  · rcases List.mem_append.1 hu with q | q
    · exact List.mem_append.2 (.inl (h.cl u q x hx))
    · exact mem x (((hL.mem u).1 q).1.step hx)
  · rcases List.mem_append.1 hu with q | q
    · obtain ⟨z, z1, z2, z3, z4⟩ := h.ix u q w hw
      exact ⟨z, List.mem_append.2 (.inl z1), z2, z3, z4.app L⟩
    · rcases hL.ix u q w hw with k | ⟨z, z1, z2, z3, z4⟩
      · exact ⟨u, hu, Rc.refl F u, Rc.refl F u, bef_join k q⟩
      · exact ⟨z, List.mem_append.2 (.inr z1), z2, z3, z4.pre⟩
/-- A part: all that lead to one another. -/
def Part (F : Nat → List Nat) (p : List Nat) : Prop := p.Nodup ∧ ∃ v, v ∈ p ∧ ∀ x, x ∈ p ↔ Rc F x v ∧ Rc F v x
/-- The second pass: Q is gone through, from the end. -/
structure Kq (F : Nat → List Nat) (N : Nat) (E P Q : List Nat) (M : Nat → Prop) (Ps : List (List Nat)) : Prop where
  e : E = P ++ Q
  m : ∀ x, M x ↔ ∃ q, q ∈ Q ∧ Rc F x q
  pt : ∀ p, p ∈ Ps → Part F p
  cv : ∀ x, M x ↔ ∃ p, p ∈ Ps ∧ x ∈ p
  dj : Ps.Pairwise fun p q => ∀ x, x ∈ p → x ∉ q
theorem kq_zero (F : Nat → List Nat) (N : Nat) (E : List Nat) : Kq F N E E [] (fun _ => False) [] :=
  ⟨by simp, fun x => by simp, fun p h => (by cases h), fun x => by simp, List.Pairwise.nil⟩
theorem Kq.cl (h : Kq F N E P Q M Ps) (hG : ∀ x y, y ∈ F x ↔ x ∈ G y) : ∀ u, M u → ∀ x, x ∈ G u → M x := fun u hu x hx => by
  obtain ⟨q, q1, q2⟩ := (h.m u).1 hu
  exact (h.m x).2 ⟨q, q1, (Rc.one ((hG x u).2 hx)).trans q2⟩
theorem Kq.step (h : Kq F N E (P ++ [v]) Q M Ps) (hE : Ke F N E) (hG : ∀ x y, y ∈ F x ↔ x ∈ G y) (hall : ∀ x, x < N → x ∈ E) (hGl : ∀ v, v < N → ∀ x ∈ G v, x < N) (hL : Ae G M v L) {M' : Nat → Prop} (hM : ∀ x, M' x ↔ M x ∨ x ∈ L) :
    Kq F N E P (v :: Q) M' (if L = [] then Ps else Ps ++ [L]) := by
  have hEe : E = P ++ v :: Q := by rw [h.e]; simp
  have hv : v ∈ E := by rw [hEe]; simp
  have hvN := hE.lt v hv
  have mem : ∀ x, x ∈ L ↔ Rc F x v ∧ ¬ M x := fun x => by rw [hL.mem x, ← rc_turn hG]
  have m' : ∀ x, M' x ↔ ∃ q, q ∈ v :: Q ∧ Rc F x q := fun x => by
    rw [hM x, mem x, h.m x]
    constructor
    · rintro (⟨q, q1, q2⟩ | ⟨q1, -⟩)
      · exact ⟨q, List.mem_cons_of_mem _ q1, q2⟩
      · exact ⟨v, List.mem_cons_self .., q1⟩
    · rintro ⟨q, q1, q2⟩
      by_cases k : ∃ q, q ∈ Q ∧ Rc F x q
      · exact .inl k
      · rcases List.mem_cons.1 q1 with e | e
        · rw [e] at q2
          exact .inr ⟨q2, k⟩
        · exact absurd ⟨q, e, q2⟩ k
  by_cases hv0 : M v
  · have : L = [] := by
      cases hl : L with
      | nil => rfl
      | cons x r =>
        have hx := (mem x).1 (by rw [hl]; simp)
        obtain ⟨q, q1, q2⟩ := (h.m v).1 hv0
        exact absurd ((h.m x).2 ⟨q, q1, hx.1.trans q2⟩) hx.2
    rw [if_pos this]
    refine ⟨hEe, m', h.pt, fun x => ?_, h.dj⟩
    rw [hM x, this]
    simp
    exact h.cv x
  · have hvL : v ∈ L := (mem v).2 ⟨Rc.refl F v, hv0⟩
    have hne : L ≠ [] := List.ne_nil_of_mem hvL
    rw [if_neg hne]
    have scc : ∀ x, x ∈ L ↔ Rc F x v ∧ Rc F v x := fun x => by
      rw [mem x]
      constructor
      · rintro ⟨h1, h2⟩
        refine ⟨h1, ?_⟩
        have hxE : x ∈ E := by
          have := (Rc.turn (fun x y => (hG x y).1) h1).lt hvN hGl
          exact hall x this
        obtain ⟨w, w1, w2, w3, w4⟩ := hE.ix x hxE v h1
        rw [hEe] at w4
        rcases w4.cut (by rw [← hEe]; exact hE.nd) with e | e
        · rw [← e]; exact w3
        · exact absurd ((h.m x).2 ⟨w, e, w2⟩) h2
      · rintro ⟨h1, h2⟩
        refine ⟨h1, fun k => hv0 ?_⟩
        obtain ⟨q, q1, q2⟩ := (h.m x).1 k
        exact (h.m v).2 ⟨q, q1, h2.trans q2⟩
    refine ⟨hEe, m', fun p hp => ?_, fun x => ?_, ?_⟩
    · rcases List.mem_append.1 hp with k | k
      · exact h.pt p k
      · rw [List.mem_singleton.1 k]
        exact ⟨hL.nd, v, hvL, scc⟩
    · rw [hM x, h.cv x]
      constructor
      · rintro (⟨p, p1, p2⟩ | k)
        · exact ⟨p, List.mem_append.2 (.inl p1), p2⟩
        · exact ⟨L, by simp, k⟩
      · rintro ⟨p, p1, p2⟩
        rcases List.mem_append.1 p1 with k | k
        · exact .inl ⟨p, k, p2⟩
        · rw [List.mem_singleton.1 k] at p2
          exact .inr p2
    · rw [List.pairwise_append]
      refine ⟨h.dj, List.pairwise_singleton .., fun p hp q hq x hx => ?_⟩
      rw [List.mem_singleton.1 hq, mem x]
      exact fun k => k.2 ((h.cv x).2 ⟨p, hp, hx⟩)
/-- The parts, all of them. -/
structure Scc (F : Nat → List Nat) (N : Nat) (Ps : List (List Nat)) : Prop where
  pt : ∀ p, p ∈ Ps → Part F p
  lt : ∀ p, p ∈ Ps → ∀ x, x ∈ p → x < N
  cv : ∀ x, x < N → ∃ p, p ∈ Ps ∧ x ∈ p
  dj : Ps.Pairwise fun p q => ∀ x, x ∈ p → x ∉ q
theorem Kq.done (h : Kq F N E [] Q M Ps) (hE : Ke F N E) (hG : ∀ x y, y ∈ F x ↔ x ∈ G y) (hall : ∀ x, x < N → x ∈ E) (hGl : ∀ v, v < N → ∀ x ∈ G v, x < N) : Scc F N Ps := by
  have e : E = Q := h.e
  refine ⟨h.pt, fun p hp x hx => ?_, fun x hx => (h.cv x).1 ((h.m x).2 ⟨x, by rw [← e]; exact hall x hx, Rc.refl F x⟩), h.dj⟩
  obtain ⟨q, q1, q2⟩ := (h.m x).1 ((h.cv x).2 ⟨p, hp, hx⟩)
  rw [← e] at q1
  exact (Rc.turn (fun x y => (hG x y).1) q2).lt (hE.lt q q1) hGl
end
end GM
end Go.Proofs.Ytibhjkmbbfgnpaa

/- Graphs searched: a queue, and the way back (mathematics). -/
namespace Go.Proofs.Ytibhjkmbbfgnpaa
namespace GM
/-- Between two rounds of a search with a queue: what was found (D is looked at, Q not yet), and by what; none that is looked at ends the search. -/
structure Bq (F : Nat → List Nat) (a : Nat) (P : Nat → Bool) (D Q : List Nat) (f : Nat → Option Nat) : Prop where
  nd : (D ++ Q).Nodup
  me : ∀ v, (f v).isSome = true ↔ v ∈ D ++ Q
  by0 : f a = some a
  at0 : a ∈ D ++ Q
  by1 : ∀ v, v ∈ D ++ Q → v ≠ a → ∃ p d, f v = some p ∧ p ∈ D ++ Q ∧ Ds F a d p ∧ Ds F a (d + 1) v ∧ v ∈ F p
  cl : ∀ u, u ∈ D → ∀ x, x ∈ F u → x ∈ D ++ Q
  rs : (D ++ Q).Pairwise fun u v => ∀ d e, Ds F a d u → Ds F a e v → d ≤ e
  hi : ∀ v r, Q = v :: r → ∀ d, Ds F a d v → (∀ x, x ∈ Q → ∃ e, e ≤ d + 1 ∧ Ds F a e x) ∧ ∀ x e, Ds F a e x → e ≤ d → x ∈ D ++ Q
  no : ∀ u, u ∈ D → P u = false
section
variable {F : Nat → List Nat} {a v x t N : Nat} {P : Nat → Bool} {D Q R : List Nat} {f : Nat → Option Nat}
theorem bq_zero (F : Nat → List Nat) (a : Nat) (P : Nat → Bool) : Bq F a P [] [a] (fun v => if v = a then some a else none) where
  nd := by simp
  me := fun v => by by_cases h : v = a <;> simp [h]
  by0 := by simp
  at0 := by simp
  by1 := fun v h k => absurd (by simpa using h) k
  cl := fun u h => by cases h
  rs := by simp
  hi := fun v r e d h => by
    injection e with e1 e2
    subst e1
    obtain rfl : d = 0 := h.uniq (ds_zero.2 rfl)
    refine ⟨fun x hx => ⟨0, by omega, ds_zero.2 (by simpa using hx)⟩, fun x e h he => ?_⟩
    obtain rfl : e = 0 := by omega
    simpa using ds_zero.1 h
  no := fun u h => by cases h
theorem Bq.ds (h : Bq F a P D Q f) {v : Nat} (hv : v ∈ D ++ Q) : ∃ d, Ds F a d v := by
  by_cases e : v = a
  · exact ⟨0, ds_zero.2 e⟩
  · obtain ⟨p, d, -, -, -, q, -⟩ := h.by1 v hv e
    exact ⟨_, q⟩
theorem Bq.lt (h : Bq F a P D Q f) (ha : a < N) (hF : ∀ v, v < N → ∀ x ∈ F v, x < N) {v : Nat} (hv : v ∈ D ++ Q) : v < N := by
  obtain ⟨d, q⟩ := h.ds hv
  exact bl_lt ha hF d v q.1
theorem Bq.len (h : Bq F a P D Q f) (ha : a < N) (hF : ∀ v, v < N → ∀ x ∈ F v, x < N) : D.length + Q.length ≤ N := by
  have := nodup_len N _ h.nd (fun x hx => h.lt ha hF hx)
  simpa using this
/-- One more is found. -/
theorem Bq.add (h : Bq F a P D (v :: R) f) (hx : x ∈ F v) (hn : f x = none) : Bq F a P D (v :: (R ++ [x])) (fun y => if y = x then some v else f y) := by
  have hx0 : x ∉ D ++ v :: R := fun k => by
    have := (h.me x).2 k
    rw [hn] at this
    cases this
  have eA : D ++ v :: (R ++ [x]) = (D ++ v :: R) ++ [x] := by simp
  have hvA : v ∈ D ++ v :: R := by simp
  obtain ⟨d, hd⟩ := h.ds hvA
  obtain ⟨h1, h2⟩ := h.hi v R rfl d hd
  obtain ⟨e, he, hxe⟩ := hd.next hx
  have hxd : Ds F a (d + 1) x := by
    by_cases q : e ≤ d
    · exact absurd (h2 x e hxe q) hx0
    · obtain rfl : e = d + 1 := by omega
      exact hxe
  have hxa : x ≠ a := fun e => hx0 (e ▸ h.at0)
  have hin : ∀ {y : Nat}, y ∈ D ++ v :: R → y ∈ D ++ v :: (R ++ [x]) := fun k => by rw [eA]; exact List.mem_append.2 (.inl k)
  refine ⟨?_, fun y => ?_, ?_, hin h.at0, fun y hy hya => ?_, fun u hu y hy => hin (h.cl u hu y hy), ?_, fun v' r' e0 d' hd' => ?_, h.no⟩
  · rw [eA, List.nodup_append]
    refine ⟨h.nd, by simp, fun y hy z hz => ?_⟩
    have := List.mem_singleton.1 hz
    exact fun q => hx0 (by rw [← this, ← q]; exact hy)
  · rw [eA, List.mem_append, ← h.me y, List.mem_singleton]
    by_cases q : y = x
    · simp [q]
    · simp [q]
  · simp [Ne.symm hxa, h.by0]
  · by_cases q : y = x
    · subst q
      exact ⟨v, d, by simp, hin hvA, hd, hxd, hx⟩
    · rw [eA, List.mem_append, List.mem_singleton] at hy
      obtain ⟨p, d1, q1, q2, q3⟩ := h.by1 y (hy.resolve_right q) hya
      exact ⟨p, d1, by simp [q, q1], hin q2, q3⟩
  · rw [eA, List.pairwise_append]
    refine ⟨h.rs, List.pairwise_singleton .., fun u hu y hy d1 e1 q1 q2 => ?_⟩
    have := List.mem_singleton.1 hy
    subst this
    have e2 := q2.uniq hxd
    have rs := h.rs
    rw [List.pairwise_append] at rs
    rcases List.mem_append.1 hu with k | k
    · have := rs.2.2 u k v (by simp) d1 d q1 hd
      omega
    · obtain ⟨e3, k1, k2⟩ := h1 u k
      have := q1.uniq k2
      omega
  · injection e0 with e1 e2
    subst e1
    have := hd'.uniq hd
    subst this
    refine ⟨fun y hy => ?_, fun y e1 q1 q2 => hin (h2 y e1 q1 q2)⟩
    rw [← List.cons_append] at hy
    rcases List.mem_append.1 hy with k | k
    · exact h1 y k
    · have := List.mem_singleton.1 k
      subst this
      exact ⟨_, Nat.le_refl _, hxd⟩
/-- All that it leads to is found. -/
theorem Bq.next (h : Bq F a P D (v :: R) f) (ht : ∀ x, x ∈ F v → x ∈ D ++ v :: R) (hp : P v = false) : Bq F a P (D ++ [v]) R f := by
  have eA : (D ++ [v]) ++ R = D ++ v :: R := by simp
  obtain ⟨d, hd⟩ := h.ds (v := v) (by simp)
  obtain ⟨h1, h2⟩ := h.hi v R rfl d hd
  have cl' : ∀ u, u ∈ D ++ [v] → ∀ x, x ∈ F u → x ∈ D ++ v :: R := fun u hu x hx => by
    rcases List.mem_append.1 hu with k | k
    · exact h.cl u k x hx
    · have := List.mem_singleton.1 k
      subst this
      exact ht x hx
  refine ⟨by rw [eA]; exact h.nd, fun y => by rw [eA]; exact h.me y, h.by0, by rw [eA]; exact h.at0, fun y hy => by rw [eA] at hy ⊢; exact h.by1 y hy, fun u hu y hy => by rw [eA]; exact cl' u hu y hy, by rw [eA]; exact h.rs, fun v' r' e0 d' hd' => ?_, fun u hu => ?_⟩
  · subst e0
    rw [eA]
    have rs := h.rs
    rw [List.pairwise_append, List.pairwise_cons, List.pairwise_cons] at rs
    have k1 : d ≤ d' := rs.2.1.1 v' (by simp) d d' hd hd'
    obtain ⟨e1, k2, k3⟩ := h1 v' (by simp)
    have k4 := hd'.uniq k3
    refine ⟨fun y hy => ?_, fun y e q1 q2 => ?_⟩
    · obtain ⟨e2, m1, m2⟩ := h1 y (List.mem_cons_of_mem _ hy)
      exact ⟨e2, by omega, m2⟩
    · by_cases m : e ≤ d
      · exact h2 y e q1 m
      · obtain rfl : e = d + 1 := by omega
        obtain ⟨u, u1, u2⟩ := q1.pred
        have hu := h2 u d u1 (Nat.le_refl _)
        rcases List.mem_append.1 hu with k | k
        · exact h.cl u k y u2
        · rcases List.mem_cons.1 k with k | k
          · subst k
            exact ht y u2
          · rcases List.mem_cons.1 k with k | k
            · subst k
              have := hd'.uniq u1
              omega
            · have := rs.2.1.2.1 u k d' d hd' u1
              omega
  · rcases List.mem_append.1 hu with k | k
    · exact h.no u k
    · have := List.mem_singleton.1 k
      subst this
      exact hp
/-- There is nothing left. -/
theorem Bq.stop (h : Bq F a P D [] f) : ∀ d x, Bl F a d x → P x = false := by
  have k : ∀ d x, Bl F a d x → x ∈ D := fun d => by
    induction d with
    | zero =>
      intro x hx
      have := h.at0
      rw [List.append_nil] at this
      rw [show x = a from hx]
      exact this
    | succ d ih =>
      intro x hx
      rcases hx with q | ⟨u, q1, q2⟩
      · exact ih x q
      · have := h.cl u (ih u q1) x q2
        rwa [List.append_nil] at this
  exact fun d x hx => h.no x (k d x hx)
/-- None that is nearer ends the search. -/
theorem Bq.near (h : Bq F a P D (v :: R) f) {d : Nat} (hd : Ds F a d v) : ∀ x e, Ds F a e x → e < d → P x = false := fun x e hx he => by
  have hm := (h.hi v R rfl d hd).2 x e hx (by omega)
  have rs := h.rs
  rw [List.pairwise_append, List.pairwise_cons] at rs
  rcases List.mem_append.1 hm with k | k
  · exact h.no x k
  · rcases List.mem_cons.1 k with k | k
    · subst k
      have := hx.uniq hd
      omega
    · have := rs.2.1.1 x k d e hd hx
      omega
/-- The way back so far: from t to v. -/
structure Wb (F : Nat → List Nat) (a t d v : Nat) (B : List Nat) : Prop where
  r : ∃ r, B.reverse = v :: r ∧ Chn F (v :: r)
  z : B.head? = some t
  l : ∃ e, Ds F a e v ∧ B.length + e = d + 1
theorem wb_zero {d : Nat} (h : Ds F a d t) : Wb F a t d t [t] := ⟨⟨[], rfl, trivial⟩, rfl, d, h, by simp; omega⟩
theorem Wb.step {d p : Nat} {B : List Nat} (h : Wb F a t d v B) (h1 : v ∈ F p) {e : Nat} (h2 : Ds F a e p) (h3 : Ds F a (e + 1) v) : Wb F a t d p (B ++ [p]) := by
  obtain ⟨r, r1, r2⟩ := h.r
  obtain ⟨e', l1, l2⟩ := h.l
  have := l1.uniq h3
  refine ⟨⟨v :: r, by simp [r1], h1, r2⟩, ?_, e, h2, by simp; omega⟩
  have z := h.z
  cases B with
  | nil => cases z
  | cons b B => simpa using z
/-- A shortest path. -/
structure Pth (F : Nat → List Nat) (a t d : Nat) (L : List Nat) : Prop where
  ds : Ds F a d t
  ln : L.length = d + 1
  hd : L.getD 0 0 = a
  tl : L.getD d 0 = t
  ch : Chn F L
theorem Wb.done {d : Nat} {B : List Nat} (h : Wb F a t d a B) (hd : Ds F a d t) : Pth F a t d B.reverse := by
  obtain ⟨r, r1, r2⟩ := h.r
  obtain ⟨e, l1, l2⟩ := h.l
  have : e = 0 := l1.uniq (ds_zero.2 rfl)
  have hl : B.length = d + 1 := by omega
  refine ⟨hd, by rw [List.length_reverse]; exact hl, by rw [r1]; rfl, ?_, by rw [r1]; exact r2⟩
  have z := h.z
  rw [List.getD_eq_getElem?_getD, List.getElem?_reverse (by omega), hl, show d + 1 - 1 - d = 0 by omega, ← List.head?_eq_getElem?, z]
  rfl
theorem Wb.lens {d : Nat} {B : List Nat} (h : Wb F a t d v B) : B.length ≤ d + 1 ∧ 1 ≤ B.length ∧ (v ≠ a → B.length ≤ d) := by
  obtain ⟨e, l1, l2⟩ := h.l
  obtain ⟨r, r1, -⟩ := h.r
  have := congrArg List.length r1
  simp at this
  refine ⟨by omega, by omega, fun k => ?_⟩
  cases e with
  | zero => exact absurd (ds_zero.1 l1) k
  | succ e => omega
end
end GM
end Go.Proofs.Ytibhjkmbbfgnpaa

/- Graphs: cycles and orders (mathematics). -/
namespace Go.Proofs.Ytibhjkmbbfgnpaa
namespace GM
open Gl
section
variable {F : Nat → List Nat} {N a b c d e v x t n : Nat} {o L p : List Nat} {M : Nat → Nat} {Ps : List (List Nat)}
theorem tg_lt (hF : ∀ v, v < N → ∀ x ∈ F v, x < N) (h : TG F a c) (ha : a < N) : c < N := by
  induction h with
  | one q => exact hF _ ha _ q
  | more q _ ih => exact ih (hF _ ha _ q)
theorem tg_rc (h : TG F a c) : Rc F a c := reach_iff.1 (.inr h)
theorem rc_tg (h : Rc F a c) : a = c ∨ TG F a c := reach_iff.2 h
theorem tg_of (hb : b ∈ F a) (h : Rc F b c) : TG F a c := by
  rcases rc_tg h with q | q
  · exact q ▸ .one hb
  · exact .more hb q
theorem tg_first (h : TG F a c) : ∃ b, b ∈ F a ∧ Rc F b c := by
  cases h with
  | one q => exact ⟨_, q, Rc.refl F _⟩
  | more q k => exact ⟨_, q, tg_rc k⟩
/-- No cycles: all of them come. -/
theorem kn_full (h : Kn F N o [] M) (hF : ∀ v, v < N → ∀ x ∈ F v, x < N) (nc : ∀ v, v < N → ¬ TG F v v) : Top F N o := by
  classical
  refine ⟨by simpa using h.nd, ?_, fun v hv => h.lt v (by simpa using hv), h.up⟩
  have key : ∀ n v, v < N → ((List.range N).filter fun x => decide (TG F v x)).length ≤ n → v ∈ o := by
    intro n
    induction n using Nat.strongRecOn with
    | _ n ih =>
      intro v hv hn
      have h0 : M v = 0 := by
        rw [h.ms v hv, List.length_eq_zero_iff, List.filter_eq_nil_iff]
        intro b hb
        have hbN := hF v hv b hb
        have lt : ((List.range N).filter fun x => decide (TG F b x)).length + 1 ≤ ((List.range N).filter fun x => decide (TG F v x)).length := by
          have := List.Nodup.length_le_of_subset (l₁ := b :: (List.range N).filter fun x => decide (TG F b x)) (l₂ := (List.range N).filter fun x => decide (TG F v x)) (List.nodup_cons.2 ⟨fun q => by
            have := (List.mem_filter.1 q).2
            exact nc b hbN (of_decide_eq_true this), List.nodup_range.filter _⟩) (fun y hy => by
            rcases List.mem_cons.1 hy with q | q
            · subst q
              exact List.mem_filter.2 ⟨List.mem_range.2 hbN, decide_eq_true (.one hb)⟩
            · obtain ⟨q1, q2⟩ := List.mem_filter.1 q
              exact List.mem_filter.2 ⟨q1, decide_eq_true (.more hb (of_decide_eq_true q2))⟩)
          simpa using this
        have := ih (((List.range N).filter fun x => decide (TG F b x)).length) (by omega) b hbN (Nat.le_refl _)
        simp [this]
      simpa using (h.zr v hv).2 h0
  exact fun v hv => key _ v hv (Nat.le_refl _)
/-- An order: what is led to stands before. -/
theorem top_before (h : Top F N o) : ∀ p v q, o = p ++ v :: q → ∀ x, TG F v x → x ∈ p := by
  intro p
  induction hn : p.length using Nat.strongRecOn generalizing p with
  | _ n ih =>
    intro v q e x hx
    obtain ⟨b, hb, hr⟩ := tg_first hx
    have hbp := h.up p v q e b hb
    rcases rc_tg hr with k | k
    · exact k ▸ hbp
    · obtain ⟨p1, p2, e1⟩ := List.append_of_mem hbp
      have := ih p1.length (by rw [← hn, e1]; simp) p1 rfl b (p2 ++ v :: q) (by rw [e, e1]; simp) x k
      rw [e1]
      exact List.mem_append.2 (.inl this)
theorem top_nc (h : Top F N o) (hv : v < N) : ¬ TG F v v := fun k => by
  obtain ⟨p, q, e⟩ := List.append_of_mem (h.all v hv)
  have := top_before h p v q e v k
  have nd := h.nd
  rw [e] at nd
  exact (List.nodup_append.1 nd).2.2 v this v (by simp) rfl
theorem kn_lt (h : Kn F N o [] M) : o.length ≤ N := by
  have := List.Nodup.length_le_of_subset (l₁ := o) (l₂ := List.range N) (by simpa using h.nd) (fun v hv => List.mem_range.2 (h.lt v (by simpa using hv)))
  simpa using this
/-- All of them came: an order. -/
theorem kn_top (h : Kn F N o [] M) (hl : o.length = N) : Top F N o := by
  refine ⟨by simpa using h.nd, fun v hv => ?_, fun v hv => h.lt v (by simpa using hv), h.up⟩
  have nd : o.Nodup := by simpa using h.nd
  by_cases q : v ∈ o
  · exact q
  · have := List.Nodup.length_le_of_subset (l₁ := v :: o) (l₂ := List.range N) (List.nodup_cons.2 ⟨q, nd⟩) (fun x hx => by
      rw [List.mem_range]
      rcases List.mem_cons.1 hx with k | k
      · omega
      · exact h.lt x (by simpa using k))
    simp at this
    omega
theorem kn_cyc (h : Kn F N o [] M) (hF : ∀ v, v < N → ∀ x ∈ F v, x < N) : (o.length = N ∧ Top F N o ∧ ∀ v, v < N → ¬ TG F v v) ∨ (o.length < N ∧ ∃ v, v < N ∧ TG F v v) := by
  by_cases q : o.length = N
  · have := kn_top h q
    exact .inl ⟨q, this, fun v hv => top_nc this hv⟩
  · refine .inr ⟨by have := kn_lt h; omega, ?_⟩
    by_cases k : ∃ v, v < N ∧ TG F v v
    · exact k
    · exact absurd (kn_full h hF fun v hv r => k ⟨v, hv, r⟩).len q
/-- A part with a cycle. -/
theorem part_cyc (h : Part F p) (hx : x ∈ p) : (1 < p.length ∨ p.getD 0 0 ∈ F (p.getD 0 0)) ↔ TG F x x := by
  obtain ⟨nd, v, hv, hm⟩ := h
  have two : ∀ y z, y ∈ p → z ∈ p → Rc F y z := fun y z hy hz => ((hm y).1 hy).1.trans ((hm z).1 hz).2
  cases p with
  | nil => cases hx
  | cons m r =>
    constructor
    · rintro (q | q)
      · have : ∃ y, y ∈ m :: r ∧ y ≠ x := by
          cases r with
          | nil => simp at q
          | cons m2 r =>
            by_cases e : m = x
            · refine ⟨m2, by simp, fun k => ?_⟩
              have := (List.nodup_cons.1 nd).1
              rw [e, ← k] at this
              simp at this
            · exact ⟨m, by simp, e⟩
        obtain ⟨y, y1, y2⟩ := this
        rcases rc_tg (two x y hx y1) with k | k
        · exact absurd k.symm y2
        · rcases rc_tg (two y x y1 hx) with k2 | k2
          · exact absurd k2 y2
          · exact k.trans k2
      · have q : m ∈ F m := q
        rcases rc_tg (two x m hx (by simp)) with k | k
        · rw [k]; exact .one q
        · rcases rc_tg (two m x (by simp) hx) with k2 | k2
          · rw [← k2]; exact .one q
          · exact k.trans k2
    · intro k
      cases r with
      | cons m2 r => exact .inl (by simp)
      | nil =>
        right
        have e : x = m := by simpa using hx
        subst e
        obtain ⟨b, hb, hr⟩ := tg_first k
        have hbp : b ∈ [x] := by
          refine (hm b).2 ⟨hr.trans ?_, ?_⟩
          · exact two x v (by simp) hv
          · exact (two v x hv (by simp)).trans (Rc.one hb)
        have : b = x := by simpa using hbp
        rw [this] at hb
        exact hb
/-- The least that was found so far. -/
structure Lc (F : Nat → List Nat) (N : Nat) (Ps : List (List Nat)) (i m : Nat) : Prop where
  le : ∀ p, p ∈ Ps.take i → ∀ x, x ∈ p → TG F x x → m ≤ x
  at' : m = N ∨ m < N ∧ TG F m m
theorem lc_zero (F : Nat → List Nat) (N : Nat) (Ps : List (List Nat)) : Lc F N Ps 0 N := ⟨fun p h => by simp at h, .inl rfl⟩
theorem take_mem {α} {l : List α} {i : Nat} {y x : α} (h : l[i]? = some y) (hx : x ∈ l.take (i + 1)) : x ∈ l.take i ∨ x = y := by
  rw [List.take_add_one, h] at hx
  rcases List.mem_append.1 hx with q | q
  · exact .inl q
  · exact .inr (by simpa using q)
theorem Lc.skip {i m : Nat} (h : Lc F N Ps i m) (hp : Ps[i]? = some p) (hn : ∀ x, x ∈ p → ¬ TG F x x) : Lc F N Ps (i + 1) m := by
  refine ⟨fun q hq x hx k => ?_, h.at'⟩
  rcases take_mem hp hq with r | r
  · exact h.le q r x hx k
  · subst r
    exact absurd k (hn x hx)
theorem Lc.take {i m u : Nat} (h : Lc F N Ps i m) (hp : Ps[i]? = some p) (hc : ∀ x, x ∈ p → TG F x x) (hu : u ∈ p) (hl : ∀ x, x ∈ p → u ≤ x) (huN : u < N) : Lc F N Ps (i + 1) (min m u) := by
  refine ⟨fun q hq x hx k => ?_, ?_⟩
  · rcases take_mem hp hq with r | r
    · have := h.le q r x hx k
      omega
    · subst r
      have := hl x hx
      omega
  · by_cases k : m ≤ u
    · rw [Nat.min_eq_left k]
      exact h.at'
    · rw [Nat.min_eq_right (by omega)]
      exact .inr ⟨huN, hc u hu⟩
/-- The least node on a cycle, or there is none. -/
theorem Lc.done {m : Nat} (h : Lc F N Ps Ps.length m) (hs : Scc F N Ps) : (m = N ∧ ∀ v, v < N → ¬ TG F v v) ∨ (m < N ∧ TG F m m ∧ ∀ v, v < N → TG F v v → m ≤ v) := by
  have le : ∀ v, v < N → TG F v v → m ≤ v := fun v hv k => by
    obtain ⟨p, p1, p2⟩ := hs.cv v hv
    exact h.le p (by rw [List.take_length]; exact p1) v p2 k
  rcases h.at' with q | q
  · exact .inl ⟨q, fun v hv k => by have := le v hv k; omega⟩
  · exact .inr ⟨q.1, q.2, le⟩
/-- A step ahead of a way. -/
theorem Bl.pre (hb : b ∈ F a) : ∀ {e x}, Bl F b e x → Bl F a (e + 1) x
  | 0, x, h => .inr ⟨a, rfl, by have h : x = b := h; rw [h]; exact hb⟩
  | e + 1, x, h => by
    rcases h with q | ⟨u, q1, q2⟩
    · exact .inl (Bl.pre hb q)
    · exact .inr ⟨u, Bl.pre hb q1, q2⟩
theorem Bl.fst : ∀ {d x}, Bl F a d x → x = a ∨ ∃ b, b ∈ F a ∧ ∃ e, e + 1 ≤ d ∧ Bl F b e x
  | 0, x, h => .inl h
  | d + 1, x, h => by
    rcases h with q | ⟨u, q1, q2⟩
    · rcases Bl.fst q with k | ⟨b, k1, e, k2, k3⟩
      · exact .inl k
      · exact .inr ⟨b, k1, e, by omega, k3⟩
    · rcases Bl.fst q1 with k | ⟨b, k1, e, k2, k3⟩
      · subst k
        exact .inr ⟨x, q2, 0, by omega, rfl⟩
      · exact .inr ⟨b, k1, e + 1, by omega, .inr ⟨u, k3, q2⟩⟩
/-- The shortest cycle through c. -/
structure Cy (F : Nat → List Nat) (c d : Nat) : Prop where
  at' : ∃ t, Ds F c d t ∧ c ∈ F t
  le : ∀ x e, Ds F c e x → c ∈ F x → d ≤ e
/-- No way back is shorter. -/
theorem Cy.low (h : Cy F c d) (hb : b ∈ F c) (hk : Ds F b e c) : d ≤ e := by
  cases e with
  | zero =>
    have q : c = b := ds_zero.1 hk
    subst q
    exact h.le c 0 (ds_zero.2 rfl) hb
  | succ e =>
    obtain ⟨u, u1, u2⟩ := hk.pred
    obtain ⟨e', q1, q2⟩ := (Bl.pre hb u1.1).ds
    have := h.le u e' q2 u2
    omega
/-- One way back is as short. -/
theorem Cy.hit (h : Cy F c d) : ∃ b, b ∈ F c ∧ Ds F b d c := by
  obtain ⟨t, t1, t2⟩ := h.at'
  have one : ∃ b, b ∈ F c ∧ ∃ e, e ≤ d ∧ Ds F b e c := by
    rcases Bl.fst t1.1 with q | ⟨b, q1, e, q2, q3⟩
    · subst q
      exact ⟨t, t2, 0, Nat.zero_le _, ds_zero.2 rfl⟩
    · obtain ⟨e', k1, k2⟩ := Bl.ds (F := F) (a := b) (d := e + 1) (v := c) (.inr ⟨t, q3, t2⟩)
      exact ⟨b, q1, e', by omega, k2⟩
  obtain ⟨b, b1, e, e1, e2⟩ := one
  have := h.low b1 e2
  obtain rfl : e = d := by omega
  exact ⟨b, b1, e2⟩
/-- The best so far. -/
structure Bst (F : Nat → List Nat) (E : List (Nat × Nat)) (c i : Nat) (z : Int) : Prop where
  le : ∀ x ∈ E.take i, x.1 = c → ∀ k, Ds F x.2 k c → 0 ≤ z ∧ z ≤ (k : Int)
  at' : z = -1 ∨ ∃ x ∈ E, x.1 = c ∧ ∃ k : Nat, z = (k : Int) ∧ Ds F x.2 k c
theorem bst_zero (F : Nat → List Nat) (E : List (Nat × Nat)) (c : Nat) : Bst F E c 0 (-1) := ⟨fun x h => by simp at h, .inl rfl⟩
theorem Bst.skip {E : List (Nat × Nat)} {i : Nat} {z : Int} {x : Nat × Nat} (h : Bst F E c i z) (hx : E[i]? = some x) (hn : ¬ (x.1 = c ∧ ∃ k, Ds F x.2 k c)) : Bst F E c (i + 1) z := by
  refine ⟨fun y hy e k hk => ?_, h.at'⟩
  rcases take_mem hx hy with q | q
  · exact h.le y q e k hk
  · subst q
    exact absurd ⟨e, k, hk⟩ hn
theorem Bst.stay {E : List (Nat × Nat)} {i k : Nat} {z : Int} {x : Nat × Nat} (h : Bst F E c i z) (hx : E[i]? = some x) (hk : Ds F x.2 k c) (h0 : ¬ z < 0) (h1 : ¬ (k : Int) < z) : Bst F E c (i + 1) z := by
  refine ⟨fun y hy e k' hk' => ?_, h.at'⟩
  rcases take_mem hx hy with q | q
  · exact h.le y q e k' hk'
  · subst q
    obtain rfl := hk.uniq hk'
    omega
theorem Bst.new {E : List (Nat × Nat)} {i k : Nat} {z : Int} {x : Nat × Nat} (h : Bst F E c i z) (hx : E[i]? = some x) (hc : x.1 = c) (hk : Ds F x.2 k c) (h1 : z < 0 ∨ (k : Int) < z) : Bst F E c (i + 1) (k : Int) := by
  refine ⟨fun y hy e k' hk' => ?_, .inr ⟨x, List.mem_of_getElem? hx, hc, k, rfl, hk⟩⟩
  rcases take_mem hx hy with q | q
  · have := h.le y q e k' hk'
    omega
  · subst q
    obtain rfl := hk.uniq hk'
    omega
theorem Bst.done {E : List (Nat × Nat)} {z : Int} (h : Bst F E c E.length z) (hf : Fits E F) (hc : Cy F c d) : z = (d : Int) := by
  obtain ⟨b, b1, b2⟩ := hc.hit
  have q := h.le (c, b) (by rw [List.take_length]; exact (hf c b).2 b1) rfl d b2
  rcases h.at' with k | ⟨x, x1, x2, k, k1, k2⟩
  · omega
  · have : d ≤ k := hc.low (by rw [← x2]; exact (hf _ _).1 x1) k2
    omega
/-- One more than the greatest of those in S. -/
def Hi (S : Nat → Prop) (l : Nat → Nat) (m : Nat) : Prop := (∀ b, S b → l b < m) ∧ (m = 0 ∨ ∃ b, S b ∧ m = l b + 1)
theorem hi_uniq {S : Nat → Prop} {l : Nat → Nat} {m m' : Nat} (h : Hi S l m) (h' : Hi S l m') : m = m' := by
  obtain ⟨h1, h2⟩ := h
  obtain ⟨k1, k2⟩ := h'
  rcases h2 with q | ⟨b, q1, q2⟩ <;> rcases k2 with r | ⟨b', r1, r2⟩
  · omega
  · have := h1 b' r1; omega
  · have := k1 b q1; omega
  · have := h1 b' r1
    have := k1 b q1
    omega
theorem hi_zero (l : Nat → Nat) : Hi (fun _ => False) l 0 := ⟨fun _ h => h.elim, .inl rfl⟩
theorem hi_add {S S' : Nat → Prop} {l : Nat → Nat} {m : Nat} (h : Hi S l m) (hS : ∀ y, S' y ↔ S y ∨ y = b) : Hi S' l (max m (l b + 1)) := by
  obtain ⟨h1, h2⟩ := h
  refine ⟨fun y hy => ?_, ?_⟩
  · rcases (hS y).1 hy with q | q
    · have := h1 y q; omega
    · subst q; omega
  · by_cases k : l b + 1 ≤ m
    · rw [Nat.max_eq_left k]
      rcases h2 with q | ⟨y, q1, q2⟩
      · exact .inl q
      · exact .inr ⟨y, (hS y).2 (.inl q1), q2⟩
    · rw [Nat.max_eq_right (by omega)]
      exact .inr ⟨b, (hS b).2 (.inr rfl), rfl⟩
theorem hi_congr {S S' : Nat → Prop} {l l' : Nat → Nat} {m : Nat} (h : Hi S l m) (hS : ∀ y, S' y ↔ S y) (hl : ∀ y, S y → l' y = l y) : Hi S' l' m := by
  obtain ⟨h1, h2⟩ := h
  refine ⟨fun y hy => by rw [hl y ((hS y).1 hy)]; exact h1 y ((hS y).1 hy), ?_⟩
  rcases h2 with q | ⟨y, q1, q2⟩
  · exact .inl q
  · exact .inr ⟨y, (hS y).2 q1, by rw [hl y q1]; exact q2⟩
end
end GM
end Go.Proofs.Ytibhjkmbbfgnpaa
