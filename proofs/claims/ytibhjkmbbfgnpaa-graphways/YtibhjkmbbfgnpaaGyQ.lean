/- Graphs searched: a queue, and the way back (mathematics). -/
import Derived.Test.YtibhjkmbbfgnpaaGyM
namespace Go.Proofs.Ytibhjkmbbfgnpaa
namespace GM
/-- Between two rounds of a search with a queue: what was found (D is looked at, Q not yet), and by what; none that is looked at ends the search. -/
structure Bq (F : Nat → List Nat) (a : Nat) (P : Nat → Bool) (D Q : List Nat) (f : Nat → Option Nat) : Prop where
  nd : (D ++ Q).Nodup
  me : ∀ v, (f v).isSome = true ↔ v ∈ D ++ Q
  by0 : f a = some a
  at0 : a ∈ D ++ Q
  by1 : ∀ v, v ∈ D ++ Q → v ≠ a → ∃ p d, f v = some p ∧ p ∈ D ++ Q ∧ Ds F a d p ∧ Ds F a (d + 1) v ∧ v ∈ F p
  cl : ∀ u, u ∈ D → ∀ x, x ∈ F u → x ∈ D ++ Q
  rs : (D ++ Q).Pairwise fun u v => ∀ d e, Ds F a d u → Ds F a e v → d ≤ e
  hi : ∀ v r, Q = v :: r → ∀ d, Ds F a d v → (∀ x, x ∈ Q → ∃ e, e ≤ d + 1 ∧ Ds F a e x) ∧ ∀ x e, Ds F a e x → e ≤ d → x ∈ D ++ Q
  no : ∀ u, u ∈ D → P u = false
section
variable {F : Nat → List Nat} {a v x t N : Nat} {P : Nat → Bool} {D Q R : List Nat} {f : Nat → Option Nat}
theorem bq_zero (F : Nat → List Nat) (a : Nat) (P : Nat → Bool) : Bq F a P [] [a] (fun v => if v = a then some a else none) where
  nd := by simp
  me := fun v => by by_cases h : v = a <;> simp [h]
  by0 := by simp
  at0 := by simp
  by1 := fun v h k => absurd (by simpa using h) k
  cl := fun u h => by cases h
  rs := by simp
  hi := fun v r e d h => by
    injection e with e1 e2
    subst e1
    obtain rfl : d = 0 := h.uniq (ds_zero.2 rfl)
    refine ⟨fun x hx => ⟨0, by omega, ds_zero.2 (by simpa using hx)⟩, fun x e h he => ?_⟩
    obtain rfl : e = 0 := by omega
    simpa using ds_zero.1 h
  no := fun u h => by cases h
theorem Bq.ds (h : Bq F a P D Q f) {v : Nat} (hv : v ∈ D ++ Q) : ∃ d, Ds F a d v := by
  by_cases e : v = a
  · exact ⟨0, ds_zero.2 e⟩
  · obtain ⟨p, d, -, -, -, q, -⟩ := h.by1 v hv e
    exact ⟨_, q⟩
theorem Bq.lt (h : Bq F a P D Q f) (ha : a < N) (hF : ∀ v, v < N → ∀ x ∈ F v, x < N) {v : Nat} (hv : v ∈ D ++ Q) : v < N := by
  obtain ⟨d, q⟩ := h.ds hv
  exact bl_lt ha hF d v q.1
theorem Bq.len (h : Bq F a P D Q f) (ha : a < N) (hF : ∀ v, v < N → ∀ x ∈ F v, x < N) : D.length + Q.length ≤ N := by
  have := nodup_len N _ h.nd (fun x hx => h.lt ha hF hx)
  simpa using this
/-- One more is found. -/
theorem Bq.add (h : Bq F a P D (v :: R) f) (hx : x ∈ F v) (hn : f x = none) : Bq F a P D (v :: (R ++ [x])) (fun y => if y = x then some v else f y) := by
  have hx0 : x ∉ D ++ v :: R := fun k => by
    have := (h.me x).2 k
    rw [hn] at this
    cases this
  have eA : D ++ v :: (R ++ [x]) = (D ++ v :: R) ++ [x] := by simp
  have hvA : v ∈ D ++ v :: R := by simp
  obtain ⟨d, hd⟩ := h.ds hvA
  obtain ⟨h1, h2⟩ := h.hi v R rfl d hd
  obtain ⟨e, he, hxe⟩ := hd.next hx
  have hxd : Ds F a (d + 1) x := by
    by_cases q : e ≤ d
    · exact absurd (h2 x e hxe q) hx0
    · obtain rfl : e = d + 1 := by omega
      exact hxe
  have hxa : x ≠ a := fun e => hx0 (e ▸ h.at0)
  have hin : ∀ {y : Nat}, y ∈ D ++ v :: R → y ∈ D ++ v :: (R ++ [x]) := fun k => by rw [eA]; exact List.mem_append.2 (.inl k)
  refine ⟨?_, fun y => ?_, ?_, hin h.at0, fun y hy hya => ?_, fun u hu y hy => hin (h.cl u hu y hy), ?_, fun v' r' e0 d' hd' => ?_, h.no⟩
  · rw [eA, List.nodup_append]
    refine ⟨h.nd, by simp, fun y hy z hz => ?_⟩
    have := List.mem_singleton.1 hz
    exact fun q => hx0 (by rw [← this, ← q]; exact hy)
  · rw [eA, List.mem_append, ← h.me y, List.mem_singleton]
    by_cases q : y = x
    · simp [q]
    · simp [q]
  · simp [Ne.symm hxa, h.by0]
  · by_cases q : y = x
    · subst q
      exact ⟨v, d, by simp, hin hvA, hd, hxd, hx⟩
    · rw [eA, List.mem_append, List.mem_singleton] at hy
      obtain ⟨p, d1, q1, q2, q3⟩ := h.by1 y (hy.resolve_right q) hya
      exact ⟨p, d1, by simp [q, q1], hin q2, q3⟩
  · rw [eA, List.pairwise_append]
    refine ⟨h.rs, List.pairwise_singleton .., fun u hu y hy d1 e1 q1 q2 => ?_⟩
    have := List.mem_singleton.1 hy
    subst this
    have e2 := q2.uniq hxd
    have rs := h.rs
    rw [List.pairwise_append] at rs
    rcases List.mem_append.1 hu with k | k
    · have := rs.2.2 u k v (by simp) d1 d q1 hd
      omega
    · obtain ⟨e3, k1, k2⟩ := h1 u k
      have := q1.uniq k2
      omega
  · injection e0 with e1 e2
    subst e1
    have := hd'.uniq hd
    subst this
    refine ⟨fun y hy => ?_, fun y e1 q1 q2 => hin (h2 y e1 q1 q2)⟩
    rw [← List.cons_append] at hy
    rcases List.mem_append.1 hy with k | k
    · exact h1 y k
    · have := List.mem_singleton.1 k
      subst this
      exact ⟨_, Nat.le_refl _, hxd⟩
/-- All that it leads to is found. -/
theorem Bq.next (h : Bq F a P D (v :: R) f) (ht : ∀ x, x ∈ F v → x ∈ D ++ v :: R) (hp : P v = false) : Bq F a P (D ++ [v]) R f := by
  have eA : (D ++ [v]) ++ R = D ++ v :: R := by simp
  obtain ⟨d, hd⟩ := h.ds (v := v) (by simp)
  obtain ⟨h1, h2⟩ := h.hi v R rfl d hd
  have cl' : ∀ u, u ∈ D ++ [v] → ∀ x, x ∈ F u → x ∈ D ++ v :: R := fun u hu x hx => by
    rcases List.mem_append.1 hu with k | k
    · exact h.cl u k x hx
    · have := List.mem_singleton.1 k
      subst this
      exact ht x hx
  refine ⟨by rw [eA]; exact h.nd, fun y => by rw [eA]; exact h.me y, h.by0, by rw [eA]; exact h.at0, fun y hy => by rw [eA] at hy ⊢; exact h.by1 y hy, fun u hu y hy => by rw [eA]; exact cl' u hu y hy, by rw [eA]; exact h.rs, fun v' r' e0 d' hd' => ?_, fun u hu => ?_⟩
  · subst e0
    rw [eA]
    have rs := h.rs
    rw [List.pairwise_append, List.pairwise_cons, List.pairwise_cons] at rs
    have k1 : d ≤ d' := rs.2.1.1 v' (by simp) d d' hd hd'
    obtain ⟨e1, k2, k3⟩ := h1 v' (by simp)
    have k4 := hd'.uniq k3
    refine ⟨fun y hy => ?_, fun y e q1 q2 => ?_⟩
    · obtain ⟨e2, m1, m2⟩ := h1 y (List.mem_cons_of_mem _ hy)
      exact ⟨e2, by omega, m2⟩
    · by_cases m : e ≤ d
      · exact h2 y e q1 m
      · obtain rfl : e = d + 1 := by omega
        obtain ⟨u, u1, u2⟩ := q1.pred
        have hu := h2 u d u1 (Nat.le_refl _)
        rcases List.mem_append.1 hu with k | k
        · exact h.cl u k y u2
        · rcases List.mem_cons.1 k with k | k
          · subst k
            exact ht y u2
          · rcases List.mem_cons.1 k with k | k
            · subst k
              have := hd'.uniq u1
              omega
            · have := rs.2.1.2.1 u k d' d hd' u1
              omega
  · rcases List.mem_append.1 hu with k | k
    · exact h.no u k
    · have := List.mem_singleton.1 k
      subst this
      exact hp
/-- There is nothing left. -/
theorem Bq.stop (h : Bq F a P D [] f) : ∀ d x, Bl F a d x → P x = false := by
  have k : ∀ d x, Bl F a d x → x ∈ D := fun d => by
    induction d with
    | zero =>
      intro x hx
      have := h.at0
      rw [List.append_nil] at this
      rw [show x = a from hx]
      exact this
    | succ d ih =>
      intro x hx
      rcases hx with q | ⟨u, q1, q2⟩
      · exact ih x q
      · have := h.cl u (ih u q1) x q2
        rwa [List.append_nil] at this
  exact fun d x hx => h.no x (k d x hx)
/-- None that is nearer ends the search. -/
theorem Bq.near (h : Bq F a P D (v :: R) f) {d : Nat} (hd : Ds F a d v) : ∀ x e, Ds F a e x → e < d → P x = false := fun x e hx he => by
  have hm := (h.hi v R rfl d hd).2 x e hx (by omega)
  have rs := h.rs
  rw [List.pairwise_append, List.pairwise_cons] at rs
  rcases List.mem_append.1 hm with k | k
  · exact h.no x k
  · rcases List.mem_cons.1 k with k | k
    · subst k
      have := hx.uniq hd
      omega
    · have := rs.2.1.1 x k d e hd hx
      omega
/-- The way back so far: from t to v. -/
structure Wb (F : Nat → List Nat) (a t d v : Nat) (B : List Nat) : Prop where
  r : ∃ r, B.reverse = v :: r ∧ Chn F (v :: r)
  z : B.head? = some t
  l : ∃ e, Ds F a e v ∧ B.length + e = d + 1
theorem wb_zero {d : Nat} (h : Ds F a d t) : Wb F a t d t [t] := ⟨⟨[], rfl, trivial⟩, rfl, d, h, by simp; omega⟩
theorem Wb.step {d p : Nat} {B : List Nat} (h : Wb F a t d v B) (h1 : v ∈ F p) {e : Nat} (h2 : Ds F a e p) (h3 : Ds F a (e + 1) v) : Wb F a t d p (B ++ [p]) := by
  obtain ⟨r, r1, r2⟩ := h.r
  obtain ⟨e', l1, l2⟩ := h.l
  have := l1.uniq h3
  refine ⟨⟨v :: r, by simp [r1], h1, r2⟩, ?_, e, h2, by simp; omega⟩
  have z := h.z
  cases B with
  | nil => cases z
  | cons b B => simpa using z
/-- A shortest path. -/
structure Pth (F : Nat → List Nat) (a t d : Nat) (L : List Nat) : Prop where
  ds : Ds F a d t
  ln : L.length = d + 1
  hd : L.getD 0 0 = a
  tl : L.getD d 0 = t
  ch : Chn F L
theorem Wb.done {d : Nat} {B : List Nat} (h : Wb F a t d a B) (hd : Ds F a d t) : Pth F a t d B.reverse := by
  obtain ⟨r, r1, r2⟩ := h.r
  obtain ⟨e, l1, l2⟩ := h.l
  have : e = 0 := l1.uniq (ds_zero.2 rfl)
  have hl : B.length = d + 1 := by omega
  refine ⟨hd, by rw [List.length_reverse]; exact hl, by rw [r1]; rfl, ?_, by rw [r1]; exact r2⟩
  have z := h.z
  rw [List.getD_eq_getElem?_getD, List.getElem?_reverse (by omega), hl, show d + 1 - 1 - d = 0 by omega, ← List.head?_eq_getElem?, z]
  rfl
theorem Wb.lens {d : Nat} {B : List Nat} (h : Wb F a t d v B) : B.length ≤ d + 1 ∧ 1 ≤ B.length ∧ (v ≠ a → B.length ≤ d) := by
  obtain ⟨e, l1, l2⟩ := h.l
  obtain ⟨r, r1, -⟩ := h.r
  have := congrArg List.length r1
  simp at this
  refine ⟨by omega, by omega, fun k => ?_⟩
  cases e with
  | zero => exact absurd (ds_zero.1 l1) k
  | succ e => omega
end
end GM
end Go.Proofs.Ytibhjkmbbfgnpaa
