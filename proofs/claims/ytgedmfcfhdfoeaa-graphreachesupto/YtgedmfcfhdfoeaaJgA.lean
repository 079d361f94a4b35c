/- Several texts in one: GuM, GvQ, GvB. -/
import Derived.Test.YtgedmfcfhdfoeaaGyM
import Derived.Test.YtgedmfcfhdfoeaaJaB
import Derived.Deep.AppendSrc
import Derived.Maps.OwnSet
import Derived.Maps.Views
import Derived.Carry
/- Graphs searched: a queue, and the way back (mathematics). -/
namespace Go.Proofs.Ytgedmfcfhdfoeaa
namespace GM
/-- Lists of numbers: the first that differs decides. -/
inductive lx : List Nat → List Nat → Prop
  | hd {a b : Nat} {r s : List Nat} : a < b → lx (a :: r) (b :: s)
  | tl {a : Nat} {r s : List Nat} : lx r s → lx (a :: r) (a :: s)
theorem lx.app {L M : List Nat} (h : lx L M) (A B : List Nat) : lx (L ++ A) (M ++ B) := by
  induction h with
  | hd h => exact .hd h
  | tl _ ih => exact .tl ih
theorem lx.last {x y : Nat} (h : x < y) : ∀ L : List Nat, lx (L ++ [x]) (L ++ [y])
  | [] => .hd h
  | _ :: r => .tl (lx.last h r)
theorem lx.irr : ∀ L : List Nat, ¬ lx L L
  | [], h => nomatch h
  | _ :: r, h => by
    cases h with
    | hd h => exact Nat.lt_irrefl _ h
    | tl h => exact lx.irr r h
theorem lx.trans {L M K : List Nat} (h : lx L M) (k : lx M K) : lx L K := by
  induction h generalizing K with
  | hd h =>
    cases k with
    | hd k => exact .hd (Nat.lt_trans h k)
    | tl k => exact .hd h
  | tl _ ih =>
    cases k with
    | hd k => exact .hd k
    | tl k => exact .tl (ih k)
/-- A path as short as can be. -/
structure Pt0 (F : Nat → List Nat) (a t d : Nat) (L : List Nat) : Prop where
  ds : Ds F a d t
  ln : L.length = d + 1
  hd : L.getD 0 0 = a
  tl : L.getD d 0 = t
  ch : Chn F L
section
variable {F : Nat → List Nat} {a d p u v x t : Nat} {L M : List Nat}
theorem chn_of : ∀ {l : List Nat}, (∀ i, i + 1 < l.length → l.getD (i + 1) 0 ∈ F (l.getD i 0)) → Chn F l
  | [], _ => trivial
  | [_], _ => trivial
  | x :: y :: r, h => by
    refine ⟨by simpa using h 0 (by simp), chn_of (l := y :: r) fun i hi => ?_⟩
    have := h (i + 1) (by simpa using hi)
    simpa using this
theorem chn_bl (h : Chn F L) (h0 : L.getD 0 0 = a) : ∀ i, i < L.length → Bl F a i (L.getD i 0)
  | 0, _ => h0
  | i + 1, hi => .inr ⟨_, chn_bl h h0 i (by omega), h.get i hi⟩
theorem getD_snoc_lt {i : Nat} (h : i < L.length) (x : Nat) : (L ++ [x]).getD i 0 = L.getD i 0 := by simp [List.getD, List.getElem?_append_left h]
theorem getD_snoc_eq (L : List Nat) (x : Nat) : (L ++ [x]).getD L.length 0 = x := by simp [List.getD]
theorem pt0_snoc (h : Pt0 F a p d L) (hx : Ds F a (d + 1) x) (hp : x ∈ F p) : Pt0 F a x (d + 1) (L ++ [x]) := by
  have hl := h.ln
  refine ⟨hx, by simp [hl], by rw [getD_snoc_lt (by omega)]; exact h.hd, by rw [← hl]; exact getD_snoc_eq L x, chn_of fun i hi => ?_⟩
  rw [List.length_append, List.length_singleton] at hi
  rw [getD_snoc_lt (by omega : i < L.length)]
  by_cases e : i + 1 < L.length
  · rw [getD_snoc_lt e]
    exact h.ch.get i e
  · have e1 : i + 1 = L.length := by omega
    have e2 : i = d := by omega
    rw [e1, getD_snoc_eq, e2, h.tl]
    exact hp
theorem pt0_split (h : Pt0 F a x (d + 1) M) : ∃ M0 u, M = M0 ++ [x] ∧ Pt0 F a u d M0 ∧ x ∈ F u := by
  have hl := h.ln
  have e : M = M.take (d + 1) ++ [x] := by
    have h1 : M[d + 1]? = some x := by
      have := h.tl
      simp only [List.getD, List.getElem?_eq_getElem (show d + 1 < M.length by omega)] at this ⊢
      simpa using this
    have h2 := List.take_add_one (l := M) (i := d + 1)
    rw [h1, List.take_of_length_le (by omega)] at h2
    simpa using h2
  have hc := h.ch.get d (by omega)
  rw [h.tl] at hc
  have hb := chn_bl h.ch h.hd d (by omega)
  have g : ∀ i, i < d + 1 → (M.take (d + 1)).getD i 0 = M.getD i 0 := fun i hi => by simp [List.getD, hi]
  refine ⟨M.take (d + 1), M.getD d 0, e, ⟨⟨hb, fun e he k => h.ds.2 (e + 1) (by omega) (.inr ⟨_, k, hc⟩)⟩, by simp [hl], by rw [g 0 (by omega)]; exact h.hd, g d (by omega), chn_of fun i hi => ?_⟩, hc⟩
  have hi2 : i + 1 < d + 1 := by
    rw [List.length_take, hl] at hi
    omega
  rw [g _ hi2, g i (by omega)]
  exact h.ch.get i (by omega)
/-- The least of them. -/
def Lp (F : Nat → List Nat) (a d t : Nat) (L : List Nat) : Prop := Pt0 F a t d L ∧ ∀ M, Pt0 F a t d M → L = M ∨ lx L M
theorem lp_zero (F : Nat → List Nat) (a : Nat) : Lp F a 0 a [a] := by
  refine ⟨⟨ds_zero.2 rfl, rfl, rfl, rfl, trivial⟩, fun M hM => .inl ?_⟩
  have h1 := hM.ln
  have h2 := hM.hd
  match M, h1, h2 with
  | [m], _, h2 => exact congrArg (fun z => [z]) h2.symm
theorem lp_uniq (h : Lp F a d t L) (k : Lp F a d t M) : L = M := by
  rcases h.2 M k.1 with q | q
  · exact q
  · rcases k.2 L h.1 with r | r
    · exact r.symm
    · exact absurd (q.trans r) (lx.irr _)
theorem lp_step (h : Lp F a d p L) (hx : Ds F a (d + 1) x) (hp : x ∈ F p) (ho : ∀ u, Ds F a d u → x ∈ F u → u = p ∨ ∃ K, Lp F a d u K ∧ lx L K) : Lp F a (d + 1) x (L ++ [x]) := by
  refine ⟨pt0_snoc h.1 hx hp, fun M hM => ?_⟩
  obtain ⟨M0, u, rfl, h0, hu⟩ := pt0_split hM
  rcases ho u h0.ds hu with q | ⟨K, k1, k2⟩
  · subst q
    rcases h.2 M0 h0 with r | r
    · exact .inl (by rw [r])
    · exact .inr (r.app _ _)
  · rcases k1.2 M0 h0 with r | r
    · exact .inr (by rw [← r]; exact k2.app _ _)
    · exact .inr ((k2.trans r).app _ _)
end
/-- Between two rounds of a search with a queue: what was found (D is looked at, Q not yet), and by what; none that is looked at ends the search. -/
structure Bq (F : Nat → List Nat) (a : Nat) (P : Nat → Bool) (D Q : List Nat) (f : Nat → Option Nat) : Prop where
  nd : (D ++ Q).Nodup
  me : ∀ v, (f v).isSome = true ↔ v ∈ D ++ Q
  by0 : f a = some a
  at0 : a ∈ D ++ Q
  by1 : ∀ v, v ∈ D ++ Q → v ≠ a → ∃ p d, f v = some p ∧ p ∈ D ++ Q ∧ Ds F a d p ∧ Ds F a (d + 1) v ∧ v ∈ F p ∧ ∀ L, Lp F a d p L → Lp F a (d + 1) v (L ++ [v])
  cl : ∀ u, u ∈ D → ∀ x, x ∈ F u → x ∈ D ++ Q
  rs : (D ++ Q).Pairwise fun u v => ∀ d e, Ds F a d u → Ds F a e v → d ≤ e
  hi : ∀ v r, Q = v :: r → ∀ d, Ds F a d v → (∀ x, x ∈ Q → ∃ e, e ≤ d + 1 ∧ Ds F a e x) ∧ ∀ x e, Ds F a e x → e ≤ d → x ∈ D ++ Q
  no : ∀ u, u ∈ D → P u = false
  ex : ∀ v, v ∈ D ++ Q → ∃ d L, Lp F a d v L
  od : (D ++ Q).Pairwise fun u v => ∀ d L M, Lp F a d u L → Lp F a d v M → lx L M
section
variable {F : Nat → List Nat} {a v x t N : Nat} {P : Nat → Bool} {D Q R : List Nat} {f : Nat → Option Nat}
theorem bq_zero (F : Nat → List Nat) (a : Nat) (P : Nat → Bool) : Bq F a P [] [a] (fun v => if v = a then some a else none) where
  nd := by simp
  me := fun v => by by_cases h : v = a <;> simp [h]
  by0 := by simp
  at0 := by simp
  by1 := fun v h k => absurd (by simpa using h) k
  cl := fun u h => by cases h
  rs := by simp
  hi := fun v r e d h => by
    injection e with e1 e2
    subst e1
    obtain rfl : d = 0 := h.uniq (ds_zero.2 rfl)
    refine ⟨fun x hx => ⟨0, by omega, ds_zero.2 (by simpa using hx)⟩, fun x e h he => ?_⟩
    obtain rfl : e = 0 := by omega
    simpa using ds_zero.1 h
  no := fun u h => by cases h
  ex := fun v h => ⟨0, [a], (by simpa using h : v = a) ▸ lp_zero F a⟩
  od := by simp
theorem Bq.ds (h : Bq F a P D Q f) {v : Nat} (hv : v ∈ D ++ Q) : ∃ d, Ds F a d v := by
  by_cases e : v = a
  · exact ⟨0, ds_zero.2 e⟩
  · obtain ⟨p, d, -, -, -, q, -⟩ := h.by1 v hv e
    exact ⟨_, q⟩
theorem Bq.lt (h : Bq F a P D Q f) (ha : a < N) (hF : ∀ v, v < N → ∀ x ∈ F v, x < N) {v : Nat} (hv : v ∈ D ++ Q) : v < N := by
  obtain ⟨d, q⟩ := h.ds hv
  exact bl_lt ha hF d v q.1
theorem Bq.len (h : Bq F a P D Q f) (ha : a < N) (hF : ∀ v, v < N → ∀ x ∈ F v, x < N) : D.length + Q.length ≤ N := by
  have := nodup_len N _ h.nd (fun x hx => h.lt ha hF hx)
  simpa using this
/-- One more is found. -/
theorem Bq.add (h : Bq F a P D (v :: R) f) (hx : x ∈ F v) (hn : f x = none) (hft : ∀ y, y ∈ D ++ v :: R → y ≠ a → ∀ p, f y = some p → p ∈ D ∨ (p = v ∧ y < x)) : Bq F a P D (v :: (R ++ [x])) (fun y => if y = x then some v else f y) := by
  have hx0 : x ∉ D ++ v :: R := fun k => by
    have := (h.me x).2 k
    rw [hn] at this
    cases this
  have eA : D ++ v :: (R ++ [x]) = (D ++ v :: R) ++ [x] := by simp
  have hvA : v ∈ D ++ v :: R := by simp
  obtain ⟨d, hd⟩ := h.ds hvA
  obtain ⟨h1, h2⟩ := h.hi v R rfl d hd
  obtain ⟨e, he, hxe⟩ := hd.next hx
  have hxd : Ds F a (d + 1) x := by
    by_cases q : e ≤ d
    · exact absurd (h2 x e hxe q) hx0
    · obtain rfl : e = d + 1 := by omega
      exact hxe
  have hxa : x ≠ a := fun e => hx0 (e ▸ h.at0)
  have hin : ∀ {y : Nat}, y ∈ D ++ v :: R → y ∈ D ++ v :: (R ++ [x]) := fun k => by rw [eA]; exact List.mem_append.2 (.inl k)
  obtain ⟨dv, Lv, hLv0⟩ := h.ex v hvA
  have edv : d = dv := hd.uniq hLv0.1.ds
  subst edv
  have odv := h.od
  rw [List.pairwise_append, List.pairwise_cons] at odv
  have hLx : Lp F a (d + 1) x (Lv ++ [x]) := lp_step hLv0 hxd hx fun u hu hxu => by
    by_cases e : u = v
    · exact .inl e
    · have huA := h2 u d hu (Nat.le_refl _)
      have huD : u ∉ D := fun k => hx0 (h.cl u k x hxu)
      have huR : u ∈ R := by
        rcases List.mem_append.1 huA with k | k
        · exact absurd k huD
        · exact (List.mem_cons.1 k).resolve_left e
      obtain ⟨du, K, hK⟩ := h.ex u huA
      have : du = d := hK.1.ds.uniq hu
      subst this
      exact .inr ⟨K, hK, odv.2.1.1 u huR du Lv K hLv0 hK⟩
  have hod : ∀ y, y ∈ D ++ v :: R → ∀ d' L M, Lp F a d' y L → Lp F a d' x M → lx L M := by
    intro y hy d' L M hL hM
    have ed : d' = d + 1 := hM.1.ds.uniq hxd
    subst ed
    have eM := lp_uniq hM hLx
    have hya : y ≠ a := fun e => by
      have := hL.1.ds.uniq (ds_zero.2 e)
      omega
    obtain ⟨p, d1, q1, q2, q3, q4, q5, q6⟩ := h.by1 y hy hya
    have e1 : d1 = d := by
      have := q4.uniq hL.1.ds
      omega
    subst e1
    obtain ⟨dp, Lq, hLq⟩ := h.ex p q2
    have e2 : dp = d1 := hLq.1.ds.uniq q3
    subst e2
    have eL := lp_uniq hL (q6 Lq hLq)
    rw [eL, eM]
    rcases hft y hy hya p q1 with k | ⟨k1, k2⟩
    · exact (odv.2.2 p k v (by simp) dp Lq Lv hLq hLv0).app _ _
    · subst k1
      rw [lp_uniq hLq hLv0]
      exact lx.last k2 Lv
  refine ⟨?_, fun y => ?_, ?_, hin h.at0, fun y hy hya => ?_, fun u hu y hy => hin (h.cl u hu y hy), ?_, fun v' r' e0 d' hd' => ?_, h.no, fun y hy => ?_, ?_⟩
  · rw [eA, List.nodup_append]
    refine ⟨h.nd, by simp, fun y hy z hz => ?_⟩
    have := List.mem_singleton.1 hz
    exact fun q => hx0 (by rw [← this, ← q]; exact hy)
  · rw [eA, List.mem_append, ← h.me y, List.mem_singleton]
    by_cases q : y = x
    · simp [q]
    · simp [q]
  · simp [Ne.symm hxa, h.by0]
  · by_cases q : y = x
    · subst q
      exact ⟨v, d, by simp, hin hvA, hd, hxd, hx, fun L hL => by rw [lp_uniq hL hLv0]; exact hLx⟩
    · rw [eA, List.mem_append, List.mem_singleton] at hy
      obtain ⟨p, d1, q1, q2, q3⟩ := h.by1 y (hy.resolve_right q) hya
      exact ⟨p, d1, by simp [q, q1], hin q2, q3⟩
  · rw [eA, List.pairwise_append]
    refine ⟨h.rs, List.pairwise_singleton .., fun u hu y hy d1 e1 q1 q2 => ?_⟩
    have := List.mem_singleton.1 hy
    subst this
    have e2 := q2.uniq hxd
    have rs := h.rs
    rw [List.pairwise_append] at rs
    rcases List.mem_append.1 hu with k | k
    · have := rs.2.2 u k v (by simp) d1 d q1 hd
      omega
    · obtain ⟨e3, k1, k2⟩ := h1 u k
      have := q1.uniq k2
      omega
  · injection e0 with e1 e2
    subst e1
    have := hd'.uniq hd
    subst this
    refine ⟨fun y hy => ?_, fun y e1 q1 q2 => hin (h2 y e1 q1 q2)⟩
    rw [← List.cons_append] at hy
    rcases List.mem_append.1 hy with k | k
    · exact h1 y k
    · have := List.mem_singleton.1 k
      subst this
      exact ⟨_, Nat.le_refl _, hxd⟩
  · rw [eA] at hy
    rcases List.mem_append.1 hy with k | k
    · exact h.ex y k
    · rw [List.mem_singleton.1 k]
      exact ⟨_, _, hLx⟩
  · rw [eA, List.pairwise_append]
    refine ⟨h.od, List.pairwise_singleton .., fun y hy z hz => ?_⟩
    have := List.mem_singleton.1 hz
    subst this
    exact hod y hy
/-- All that it leads to is found. -/
theorem Bq.next (h : Bq F a P D (v :: R) f) (ht : ∀ x, x ∈ F v → x ∈ D ++ v :: R) (hp : P v = false) : Bq F a P (D ++ [v]) R f := by
  have eA : (D ++ [v]) ++ R = D ++ v :: R := by simp
  obtain ⟨d, hd⟩ := h.ds (v := v) (by simp)
  obtain ⟨h1, h2⟩ := h.hi v R rfl d hd
  have cl' : ∀ u, u ∈ D ++ [v] → ∀ x, x ∈ F u → x ∈ D ++ v :: R := fun u hu x hx => by
    rcases List.mem_append.1 hu with k | k
    · exact h.cl u k x hx
    · have := List.mem_singleton.1 k
      subst this
      exact ht x hx
  refine ⟨by rw [eA]; exact h.nd, fun y => by rw [eA]; exact h.me y, h.by0, by rw [eA]; exact h.at0, fun y hy => by rw [eA] at hy ⊢; exact h.by1 y hy, fun u hu y hy => by rw [eA]; exact cl' u hu y hy, by rw [eA]; exact h.rs, fun v' r' e0 d' hd' => ?_, fun u hu => ?_, fun y hy => by rw [eA] at hy; exact h.ex y hy, by rw [eA]; exact h.od⟩
  · subst e0
    rw [eA]
    have rs := h.rs
    rw [List.pairwise_append, List.pairwise_cons, List.pairwise_cons] at rs
    have k1 : d ≤ d' := rs.2.1.1 v' (by simp) d d' hd hd'
    obtain ⟨e1, k2, k3⟩ := h1 v' (by simp)
    have k4 := hd'.uniq k3
    refine ⟨fun y hy => ?_, fun y e q1 q2 => ?_⟩
    · obtain ⟨e2, m1, m2⟩ := h1 y (List.mem_cons_of_mem _ hy)
      exact ⟨e2, by omega, m2⟩
    · by_cases m : e ≤ d
      · exact h2 y e q1 m
      · obtain rfl : e = d + 1 := by omega
        obtain ⟨u, u1, u2⟩ := q1.pred
        have hu := h2 u d u1 (Nat.le_refl _)
        rcases List.mem_append.1 hu with k | k
        · exact h.cl u k y u2
        · rcases List.mem_cons.1 k with k | k
          · subst k
            exact ht y u2
          · rcases List.mem_cons.1 k with k | k
            · subst k
              have := hd'.uniq u1
              omega
            · have := rs.2.1.2.1 u k d' d hd' u1
              omega
  · rcases List.mem_append.1 hu with k | k
    · exact h.no u k
    · have := List.mem_singleton.1 k
      subst this
      exact hp
/-- There is nothing left. -/
theorem Bq.stop (h : Bq F a P D [] f) : ∀ d x, Bl F a d x → P x = false := by
  have k : ∀ d x, Bl F a d x → x ∈ D := fun d => by
    induction d with
    | zero =>
      intro x hx
      have := h.at0
      rw [List.append_nil] at this
      rw [show x = a from hx]
      exact this
    | succ d ih =>
      intro x hx
      rcases hx with q | ⟨u, q1, q2⟩
      · exact ih x q
      · have := h.cl u (ih u q1) x q2
        rwa [List.append_nil] at this
  exact fun d x hx => h.no x (k d x hx)
/-- None that is nearer ends the search. -/
theorem Bq.near (h : Bq F a P D (v :: R) f) {d : Nat} (hd : Ds F a d v) : ∀ x e, Ds F a e x → e < d → P x = false := fun x e hx he => by
  have hm := (h.hi v R rfl d hd).2 x e hx (by omega)
  have rs := h.rs
  rw [List.pairwise_append, List.pairwise_cons] at rs
  rcases List.mem_append.1 hm with k | k
  · exact h.no x k
  · rcases List.mem_cons.1 k with k | k
    · subst k
      have := hx.uniq hd
      omega
    · have := rs.2.1.1 x k d e hd hx
      omega
/-- The way back so far: from t to v. -/
structure Wb (F : Nat → List Nat) (a t d v : Nat) (B : List Nat) : Prop where
  r : ∃ r, B.reverse = v :: r ∧ Chn F (v :: r)
  z : B.head? = some t
  l : ∃ e, Ds F a e v ∧ B.length + e = d + 1
  lp : ∀ e L, Lp F a e v L → Lp F a d t (L ++ B.reverse.tail)
theorem wb_zero {d : Nat} (h : Ds F a d t) : Wb F a t d t [t] := ⟨⟨[], rfl, trivial⟩, rfl, ⟨d, h, by simp; omega⟩, fun e L hL => by
  have : e = d := hL.1.ds.uniq h
  subst this
  simpa using hL⟩
theorem Wb.step {d p : Nat} {B : List Nat} (h : Wb F a t d v B) (h1 : v ∈ F p) {e : Nat} (h2 : Ds F a e p) (h3 : Ds F a (e + 1) v) (h4 : ∀ L, Lp F a e p L → Lp F a (e + 1) v (L ++ [v])) : Wb F a t d p (B ++ [p]) := by
  obtain ⟨r, r1, r2⟩ := h.r
  obtain ⟨e', l1, l2⟩ := h.l
  have := l1.uniq h3
  refine ⟨⟨v :: r, by simp [r1], h1, r2⟩, ?_, ⟨e, h2, by simp; omega⟩, fun e' L hL => ?_⟩
  rotate_left
  · have : e' = e := hL.1.ds.uniq h2
    subst this
    have := h.lp _ _ (h4 L hL)
    rw [List.reverse_append, List.reverse_singleton, List.singleton_append, List.tail_cons, r1]
    rw [r1, List.tail_cons] at this
    simpa using this
  have z := h.z
  cases B with
  | nil => cases z
  | cons b B => simpa using z
/-- A shortest path. -/
structure Pth (F : Nat → List Nat) (a t d : Nat) (L : List Nat) : Prop where
  ds : Ds F a d t
  ln : L.length = d + 1
  hd : L.getD 0 0 = a
  tl : L.getD d 0 = t
  ch : Chn F L
  ls : ∀ M, Pt0 F a t d M → L = M ∨ lx L M
theorem Wb.done {d : Nat} {B : List Nat} (h : Wb F a t d a B) (hd : Ds F a d t) : Pth F a t d B.reverse := by
  obtain ⟨r, r1, r2⟩ := h.r
  obtain ⟨e, l1, l2⟩ := h.l
  have : e = 0 := l1.uniq (ds_zero.2 rfl)
  have hl : B.length = d + 1 := by omega
  refine ⟨hd, by rw [List.length_reverse]; exact hl, by rw [r1]; rfl, ?_, by rw [r1]; exact r2, ?_⟩
  rotate_left
  · have := (h.lp 0 [a] (lp_zero F a)).2
    rw [r1, List.tail_cons] at this
    rw [r1]
    exact this
  have z := h.z
  rw [List.getD_eq_getElem?_getD, List.getElem?_reverse (by omega), hl, show d + 1 - 1 - d = 0 by omega, ← List.head?_eq_getElem?, z]
  rfl
theorem Wb.lens {d : Nat} {B : List Nat} (h : Wb F a t d v B) : B.length ≤ d + 1 ∧ 1 ≤ B.length ∧ (v ≠ a → B.length ≤ d) := by
  obtain ⟨e, l1, l2⟩ := h.l
  obtain ⟨r, r1, -⟩ := h.r
  have := congrArg List.length r1
  simp at this
  refine ⟨by omega, by omega, fun k => ?_⟩
  cases e with
  | zero => exact absurd (ds_zero.1 l1) k
  | succ e => omega
end
end GM
end Go.Proofs.Ytgedmfcfhdfoeaa

/- Graphs searched: a map from numbers to numbers; a queue as it lies. -/
namespace Go.Proofs.Ytgedmfcfhdfoeaa
open Go.RowKit GM
set_option maxRecDepth 20000
theorem zero3 (w : World) : (zeroValue 3).run Try.prog w = .ok (.int .i64 0) w := by
  have h : (Try.prog.info? 3).map (fun i => i.zero) = some (some (.int .i64 0)) := by kernel_rfl
  cases hq : Try.prog.info? 3 with
  | none => simp [hq] at h
  | some i =>
    rw [hq] at h
    simp only [Option.map_some, Option.some.injEq] at h
    simp [zeroValue, typeInfo, hq, h]
/-- A map from numbers to numbers. -/
def Mb (w : World) (b n : Nat) (f : Nat → Option Nat) : Prop :=
  ∃ D : DataW Unit, w.ownsMap Try.prog 3 (plainElem Try.prog 3) b n D ∧ Maps.IsMap D ∧ ∀ v : Nat, v < 4611686018427387904 → Maps.has D (kI v) = (f v).isSome ∧ ∀ i, f v = some i → D.atKey (kI v) (.lit (.int .i64 0)) = .lit (.int .i64 (i : Int))
theorem mb_made (w : World) : Mb (w.alloc (.map #[] 0)) w.heap.size 0 (fun _ => none) := ⟨_, World.ownsMap_made w _ _ _, Maps.isMap_empty, fun s _ => ⟨rfl, fun i h => by cases h⟩⟩
theorem Mb.lt {w : World} {b n : Nat} {f : Nat → Option Nat} (h : Mb w b n f) : b < w.heap.size := by
  obtain ⟨D, h, -⟩ := h
  exact h.lt
theorem Mb.keep {w w' : World} {b n : Nat} {f : Nat → Option Nat} (h : Mb w b n f) (hb : w'.heap[b]? = w.heap[b]?) : Mb w' b n f := by
  obtain ⟨D, ⟨es, clock, h1, h2⟩, h3⟩ := h
  exact ⟨D, ⟨es, clock, hb.trans h1, h2⟩, h3⟩
theorem Mb.row {w : World} {b n : Nat} {f : Nat → Option Nat} (h : Mb w b n f) {g : Nat} {C : Array Value} {t : Nat} (hg : w.heap[g]? = some (.cells C t (0, 0))) : b ≠ g := by
  obtain ⟨D, ⟨es, clock, h1, h2⟩, h3⟩ := h
  intro e
  subst e
  have := h1.symm.trans hg
  cases this
def lkS (m k : Value) (c : Bool) : Sem Value := Instr.lookup 103 m k c
theorem toLkS (m k : Value) (c : Bool) : Instr.lookup 103 m k c = lkS m k c := rfl
def mpS (m k v : Value) : Sem Unit := Instr.mapUpdate 103 m k v
theorem toMpS (m k v : Value) : Instr.mapUpdate 103 m k v = mpS m k v := rfl
theorem Mb.look {w : World} {b n : Nat} {f : Nat → Option Nat} (h : Mb w b n f) (v : Nat) (hv : v < 4611686018427387904) : ∃ c : Int, (lkS (.map (some b)) (.int .i64 (v : Int)) true).run Try.prog w = .ok (.tuple #[.int .i64 c, .bool (f v).isSome]) w := by
  obtain ⟨D, h1, h2, h3⟩ := h
  obtain ⟨u, ps, hrun, hv'⟩ := h1.look_ok keyI Try.underlying103 (zero3 w) (plainElem_int Try.underlying3 (by decide)) (kI_key hv)
  obtain ⟨c, rfl, hc, hwc⟩ := plainElem_int_inv Try.underlying3 hv'
  rw [(h3 v hv).1] at hrun
  exact ⟨c, hrun⟩
theorem Mb.get {w : World} {b n : Nat} {f : Nat → Option Nat} (h : Mb w b n f) (v : Nat) (hv : v < 4611686018427387904) {p : Nat} (hp : f v = some p) : (lkS (.map (some b)) (.int .i64 (v : Int)) false).run Try.prog w = .ok (.int .i64 (p : Int)) w := by
  obtain ⟨D, h1, h2, h3⟩ := h
  obtain ⟨c, hrun, hc, -⟩ := h1.lookup_int keyI Try.underlying103 Try.underlying3 (zero3 w) (kI_key hv)
  have := (h3 v hv).2 p hp
  rw [this] at hc
  simp only [DataW.lit.injEq, Lit.int.injEq, true_and] at hc
  rw [hc]
  exact hrun
theorem Mb.put {w : World} {b n : Nat} {f : Nat → Option Nat} (h : Mb w b n f) (v : Nat) (hv : v < 4611686018427387904) (i : Nat) (hi : i ≤ 10000000) (hn : n ≤ 10000000) : ∃ w', (mpS (.map (some b)) (.int .i64 (v : Int)) (.int .i64 (i : Int))).run Try.prog w = .ok () w' ∧ Mb w' b (n + 1) (fun t => if t = v then some i else f t) ∧ w.grownBy w' (some b) := by
  obtain ⟨D, h1, h2, h3⟩ := h
  have hw : (Lit.int .i64 (i : Int)).wf = true := by
    have h3 : IntKind.i64.min = -9223372036854775808 := by decide
    have h4 : IntKind.i64.max = 9223372036854775807 := by decide
    simp [Lit.wf, h3, h4]
    omega
  obtain ⟨w', q1, q2, q3⟩ := h1.update keyI Try.underlying103 (by unfold maxLen; omega) (kI_key hv) (plainElem_int (H := Unit) Try.underlying3 hw)
  refine ⟨w', q1, ⟨_, q2, h2.put _ _, fun t ht => ?_⟩, q3⟩
  have hk : WideAt.IsKeyLit (kI v) := keyI.key (kI_key hv)
  by_cases e : t = v
  · subst e
    refine ⟨by simp [Maps.has_put_same h2 hk], fun j hj => ?_⟩
    simp at hj
    subst hj
    exact Maps.atKey_put_same h2 hk _ _
  · have hne : kI t ≠ kI v := fun q => e (kI_inj q)
    simp only [if_neg e]
    rw [Maps.has_put_other hne]
    refine ⟨(h3 t ht).1, fun j hj => ?_⟩
    rw [Maps.atKey_put_other hne]
    exact (h3 t ht).2 j hj
theorem grown_frm {w w' : World} {b : Nat} (h : w.grownBy w' (some b)) : Rm.Frm (fun k => k = b) w w' := ⟨h.os, h.tape, h.output, h.size, fun k hk hx => h.block k hk (fun e => hx (Option.some.inj e))⟩
/-- A queue: a slice of numbers in a block of its own, from some place on. -/
def Qu (B : Nat) (v : Value) (l : List Nat) (w : World) : Prop := ∃ o c, v = .slice o l.length c ∧ (0 < l.length → ∃ g off cur, o = some ⟨g, off, none⟩ ∧ B ≤ g ∧ w.heap[g]? = some (.cells cur 3 (0, 0)) ∧ off + c ≤ cur.size ∧ l.length ≤ c ∧ ∀ j, j < l.length → cur[off + j]? = some (.int .i64 ((l.getD j 0 : Nat) : Int)))
theorem Qu.keep {B : Nat} {v : Value} {l : List Nat} {w w' : World} (h : Qu B v l w) (hb : ∀ k C, B ≤ k → w.heap[k]? = some (.cells C 3 (0, 0)) → w'.heap[k]? = w.heap[k]?) : Qu B v l w' := by
  obtain ⟨o, c, rfl, h1⟩ := h
  refine ⟨o, c, rfl, fun hp => ?_⟩
  obtain ⟨g, off, cur, e, q1, q2, q3⟩ := h1 hp
  exact ⟨g, off, cur, e, q1, (hb g cur q1 q2).trans q2, q3⟩
/-- Its head. -/
theorem Qu.head {B : Nat} {v : Value} {x : Nat} {r : List Nat} {w : World} (h : Qu B v (x :: r) w) : ∃ g off c, v = .slice (some ⟨g, off, none⟩) (r.length + 1) c ∧ r.length + 1 ≤ c ∧ w.cell? ⟨g, off, none⟩ = some (.int .i64 (x : Int)) ∧ ∀ o', (r.length ≠ 0 → o' = some ⟨g, off + 1, none⟩) → Qu B (.slice o' r.length (c - 1)) r w := by
  obtain ⟨o, c, rfl, h1⟩ := h
  obtain ⟨g, off, cur, rfl, q1, q2, q3, q4, q5⟩ := h1 (Nat.succ_pos _)
  have q40 : r.length + 1 ≤ c := q4
  refine ⟨g, off, c, rfl, q4, (cell_of_row _ _ _ _ _ _ q2).trans (q5 0 (Nat.succ_pos _)), fun o' ho => ⟨o', c - 1, rfl, fun hp => ⟨g, off + 1, cur, ho (by omega), q1, q2, by omega, by omega, fun j hj => ?_⟩⟩⟩
  have := q5 (j + 1) (Nat.succ_lt_succ hj)
  rw [show off + (j + 1) = off + 1 + j by omega] at this
  rw [this, List.getD_cons_succ]
theorem getD_snoc {l : List Nat} {x : Nat} : (l ++ [x]).getD l.length 0 = x := by simp [List.getD]
theorem getD_left {l m : List Nat} {j : Nat} (h : j < l.length) : (l ++ m).getD j 0 = l.getD j 0 := by simp [List.getD, List.getElem?_append_left h]
/-- One more. -/
theorem Qu.add {B : Nat} {v : Value} {l : List Nat} {w : World} (h : Qu B v l w) (hl : 0 < l.length) (hl2 : l.length < 1000000000) (hB : B ≤ w.heap.size) (x : Nat) :
    ∃ o' c' w', (apI 32 #[v, .slice (some ⟨w.heap.size, 0, none⟩) 1 1]).run Try.prog (w.alloc (.cells #[.int .i64 (x : Int)] 3)) = .ok (.slice o' (l.length + 1) c') w' ∧ Qu B (.slice o' (l.length + 1) c') (l ++ [x]) w' ∧ Rm.Frm (fun k => B ≤ k ∧ ∃ C, w.heap[k]? = some (.cells C 3 (0, 0))) w w' := by
  obtain ⟨i0, hi0, hz0, hz1, hz2⟩ := info_parts info3
  obtain ⟨o, c, rfl, h1⟩ := h
  obtain ⟨g, off, cur, rfl, q1, q2, q3, q4, q5⟩ := h1 hl
  obtain ⟨A, hA⟩ : ∃ A, w.alloc (.cells #[.int .i64 (x : Int)] 3) = A := ⟨_, rfl⟩
  have rA : A.heap[w.heap.size]? = some (.cells #[.int .i64 (x : Int)] 3 (0, 0)) := by rw [← hA]; exact heap_alloc_new _ _
  have bA : Below w.heap.size w A := by rw [← hA]; exact (Below.refl _ w).alloc (Nat.le_refl _) _
  have sA : A.heap.size = w.heap.size + 1 := by rw [← hA]; simp
  have hg := (Array.getElem?_eq_some_iff.1 q2).1
  have rg : A.heap[g]? = some (.cells cur 3 (0, 0)) := (bA.block g hg).trans q2
  have hs : Src Try.prog i0.size 32 (.slice (some ⟨w.heap.size, 0, none⟩) 1 1) 1 [.int .i64 (x : Int)] A := Src.ofSlice A Try.underlying32 ⟨w.heap.size, 0, none⟩ 1 1 _ (by rw [hz1]; rfl)
    (World.news_of_block (cs := #[.int .i64 (x : Int)]) (t := 3) (fr := (0, 0)) rA) (fun u hu => by
      have q := List.mem_singleton.1 hu
      subst q; rfl)
  rw [hA]
  by_cases hr : l.length + 1 ≤ c
  · have cg : ∀ j, j < cur.size → A.cell? ⟨g, j, none⟩ = some cur[j]! := fun j hj => (cell_of_row _ _ _ _ _ _ rg).trans (by simp [hj])
    have R := run_append_room_src (P := Try.prog) A 32 32 32 3 i0 Try.underlying32 hi0 g off l.length c _ 1 _ hs hr
      (fun j hj => by
        have : j = 0 := by simp at hj; exact hj
        subst this
        rw [hz1, Nat.mul_one, Nat.add_zero, cg _ (by omega)]
        rfl) (fun j hj => frozen_of_row _ _ _ _ _ rg)
    rw [hz1, Nat.mul_one] at R
    refine ⟨_, c, _, R, ?_, ?_⟩
    · have e : A.setCells g (off + l.length) [.int .i64 (x : Int)] = A.setCell ⟨g, off + l.length, none⟩ (.int .i64 (x : Int)) := rfl
      rw [e]
      refine ⟨_, c, by simp, fun _ => ⟨g, off, _, rfl, q1, heap_setCell_same _ _ _ _ _ _ rg, by simpa using q3, by simpa using hr, fun j hj => ?_⟩⟩
      rw [Array.getElem?_setIfInBounds]
      by_cases k : j = l.length
      · subst k
        rw [if_pos rfl, if_pos (by omega), getD_snoc]
      · have hj2 : j < l.length := by simp at hj; omega
        rw [if_neg (by omega), q5 j hj2, getD_left hj2]
    · have e : A.setCells g (off + l.length) [.int .i64 (x : Int)] = A.setCell ⟨g, off + l.length, none⟩ (.int .i64 (x : Int)) := rfl
      rw [e, setCell_eq_setRow A g (off + l.length) _ _ _ _ rg]
      refine ⟨bA.os, bA.tape, bA.output, by simp [World.setRow, sA], fun k hk hx => ?_⟩
      have hkg : k ≠ g := fun e => hx ⟨by omega, cur, by rw [e]; exact q2⟩
      exact (setRow_other A g k _ hkg).trans (bA.block k hk)
  · have hf := run_firstCells_some (P := Try.prog) A.drew i0.size l.length ⟨g, off, none⟩ l.length c ((l.map fun n : Nat => Value.int .i64 (n : Int))) (by rw [hz1]; simp) (fun j v hv => by
      rw [List.getElem?_map] at hv
      cases hq : l[j]? with
      | none => rw [hq] at hv; cases hv
      | some y =>
        rw [hq] at hv
        simp at hv
        subst hv
        have hj : j < l.length := (List.getElem?_eq_some_iff.1 hq).1
        have := q5 j hj
        rw [List.getD_eq_getElem?_getD, hq] at this
        have rgd : A.drew.heap[g]? = some (.cells cur 3 (0, 0)) := rg
        rw [Addr.add_lit]
        exact (cell_of_row _ _ _ _ _ _ rgd).trans (by simpa using this))
    have hc : c < l.length + 1 := by omega
    have R := run_append_grow_src (P := Try.prog) A 32 32 32 3 i0 _ Try.underlying32 hi0 hz0 (some ⟨g, off, none⟩) l.length c _ hf _ 1 _ hs hc (by omega) (by
      rw [hz2]
      exact growslice_fits hc (by omega))
    have hge := grownCap_ge A (l.length + 1) c 3
    obtain ⟨gc, hgc⟩ : ∃ g, grownCap A (l.length + 1) c 3 = g := ⟨_, rfl⟩
    rw [hgc] at hge R
    obtain ⟨row, hrow⟩ : ∃ r, (List.map (fun n : Nat => Value.int .i64 (n : Int)) l ++ [Value.int .i64 (x : Int)]).toArray ++ Builtin.zeroCells (Value.int .i64 0).cells (gc - (l.length + 1)) = r := ⟨_, rfl⟩
    rw [hrow] at R
    have hsz : gc ≤ row.size := by
      rw [← hrow, Array.size_append, size_zeroCells]
      simp [Value.cells]
      omega
    have hat : ∀ j, j < l.length + 1 → row[j]? = some (.int .i64 (((l ++ [x]).getD j 0 : Nat) : Int)) := fun j hj1 => by
      rw [← hrow, Array.getElem?_append_left (by simp; omega)]
      simp only [List.getElem?_toArray]
      by_cases k : j = l.length
      · subst k
        rw [getD_snoc, List.getElem?_append_right (by simp)]
        simp
      · have hj2 : j < l.length := by omega
        rw [List.getElem?_append_left (by simpa using hj2), getD_left hj2]
        simp [List.getD, hj2]
    refine ⟨_, _, _, R, ?_, ?_⟩
    · exact ⟨_, gc, by simp, fun _ => ⟨A.heap.size, 0, row, rfl, by omega, heap_alloc_new A.drew _, by omega, by simpa using hge, fun j hj => by rw [Nat.zero_add]; exact hat j (by simpa using hj)⟩⟩
    · have b2 : Below A.heap.size A (A.drew.alloc (.cells row 3)) := ((Below.refl _ A).drew).alloc (Nat.le_refl _) _
      have b3 := bA.trans (b2.mono bA.size)
      exact Rm.Frm.of_below b3
end Go.Proofs.Ytgedmfcfhdfoeaa

/- Graphs searched by the document: distances from a set of roots (mathematics). -/
namespace Go.Proofs.Ytgedmfcfhdfoeaa
namespace GM
/-- Within d steps of one of the roots. -/
def BlS (F : Nat → List Nat) (S : List Nat) : Nat → Nat → Prop
  | 0, v => v ∈ S
  | d + 1, v => BlS F S d v ∨ ∃ u, BlS F S d u ∧ v ∈ F u
/-- At distance d of the roots. -/
def DsS (F : Nat → List Nat) (S : List Nat) (d v : Nat) : Prop := BlS F S d v ∧ ∀ e, e < d → ¬ BlS F S e v
section
variable {F : Nat → List Nat} {S : List Nat} {d e v u x N : Nat}
theorem BlS.mono (h : BlS F S d v) (hd : d ≤ e) : BlS F S e v := by
  induction e with
  | zero =>
    obtain rfl : d = 0 := by omega
    exact h
  | succ e ih =>
    by_cases q : d = e + 1
    · rw [← q]; exact h
    · exact .inl (ih (by omega))
theorem DsS.uniq (h : DsS F S d v) (k : DsS F S e v) : d = e := by
  rcases Nat.lt_trichotomy d e with q | q | q
  · exact absurd h.1 (k.2 d q)
  · exact q
  · exact absurd k.1 (h.2 e q)
theorem BlS.ds (h : BlS F S d v) : ∃ e, e ≤ d ∧ DsS F S e v := by
  obtain ⟨e, h1, h2, h3⟩ := least_of (p := fun e => BlS F S e v) d ⟨d, Nat.le_refl _, h⟩
  exact ⟨e, h1, h2, h3⟩
theorem DsS.pred (h : DsS F S (d + 1) v) : ∃ u, DsS F S d u ∧ v ∈ F u := by
  rcases h.1 with q | ⟨u, q1, q2⟩
  · exact absurd q (h.2 d (by omega))
  · refine ⟨u, ⟨q1, fun e he k => ?_⟩, q2⟩
    exact h.2 (e + 1) (by omega) (.inr ⟨u, k, q2⟩)
theorem DsS.next (h : DsS F S d u) (hx : v ∈ F u) : ∃ e, e ≤ d + 1 ∧ DsS F S e v := BlS.ds (d := d + 1) (.inr ⟨u, h.1, hx⟩)
theorem dsS_zero : DsS F S 0 v ↔ v ∈ S := ⟨fun h => h.1, fun h => ⟨h, fun e he => by omega⟩⟩
theorem blS_lt (hS : ∀ x ∈ S, x < N) (hF : ∀ v, v < N → ∀ x ∈ F v, x < N) : ∀ d v, BlS F S d v → v < N
  | 0, v, h => hS v h
  | d + 1, v, h => by
    rcases h with q | ⟨u, q1, q2⟩
    · exact blS_lt hS hF d v q
    · exact hF u (blS_lt hS hF d u q1) v q2
theorem lyrS_both : ∀ d, (∀ x, x ∈ (lyr F S d).2 ↔ BlS F S d x) ∧ ∀ x, x ∈ (lyr F S d).1 ↔ DsS F S d x
  | 0 => by
    refine ⟨fun x => ?_, fun x => ?_⟩
    · show x ∈ (frs [] S).2 ↔ x ∈ S
      rw [frs_mem]; simp
    · show x ∈ (frs [] S).1 ↔ _
      rw [frs_mem1, dsS_zero]; simp
  | d + 1 => by
    obtain ⟨h1, h2⟩ := lyrS_both d
    have fm : ∀ x, x ∈ (srt (lyr F S d).1).flatMap F ↔ ∃ u, DsS F S d u ∧ x ∈ F u := fun x => by
      rw [List.mem_flatMap]
      exact ⟨fun ⟨u, q1, q2⟩ => ⟨u, (h2 u).1 ((srt_mem _ _).1 q1), q2⟩, fun ⟨u, q1, q2⟩ => ⟨u, (srt_mem _ _).2 ((h2 u).2 q1), q2⟩⟩
    refine ⟨fun x => ?_, fun x => ?_⟩
    · show x ∈ (frs (lyr F S d).2 ((srt (lyr F S d).1).flatMap F)).2 ↔ _
      rw [frs_mem, h1, fm]
      constructor
      · rintro (q | ⟨u, q1, q2⟩)
        · exact .inl q
        · exact .inr ⟨u, q1.1, q2⟩
      · rintro (q | ⟨u, q1, q2⟩)
        · exact .inl q
        · obtain ⟨e, he, k⟩ := q1.ds
          by_cases q : e = d
          · subst q
            exact .inr ⟨u, k, q2⟩
          · have k2 : BlS F S (e + 1) x := .inr ⟨u, k.1, q2⟩
            exact .inl (k2.mono (by omega))
    · show x ∈ (frs (lyr F S d).2 ((srt (lyr F S d).1).flatMap F)).1 ↔ _
      rw [frs_mem1, h1, fm]
      constructor
      · rintro ⟨⟨u, q1, q2⟩, q3⟩
        exact ⟨.inr ⟨u, q1.1, q2⟩, fun e he k => q3 (k.mono (by omega))⟩
      · intro h
        exact ⟨h.pred, h.2 d (by omega)⟩
theorem lyrS_ds : x ∈ (lyr F S d).1 ↔ DsS F S d x := (lyrS_both d).2 x
theorem blS_one : ∀ {d v : Nat} {a : Nat}, BlS F [a] d v ↔ Bl F a d v
  | 0, v, a => by simp [BlS, Bl]
  | d + 1, v, a => by
    simp only [BlS, Bl]
    rw [blS_one (d := d)]
    constructor
    · rintro (q | ⟨u, q1, q2⟩)
      · exact .inl q
      · exact .inr ⟨u, blS_one.1 q1, q2⟩
    · rintro (q | ⟨u, q1, q2⟩)
      · exact .inl q
      · exact .inr ⟨u, blS_one.2 q1, q2⟩
theorem dsS_one {a : Nat} : DsS F [a] d v ↔ Ds F a d v := by
  unfold DsS Ds
  rw [blS_one]
  exact and_congr_right fun _ => ⟨fun h e he k => h e he (blS_one.2 k), fun h e he k => h e he (blS_one.1 k)⟩
end
/-- A search with a queue and distances: D is looked at, Q not yet. -/
structure Fq (F : Nat → List Nat) (S : List Nat) (D Q : List Nat) (f : Nat → Option Nat) : Prop where
  nd : (D ++ Q).Nodup
  me : ∀ v, (f v).isSome = true ↔ v ∈ D ++ Q
  dv : ∀ v k, f v = some k → DsS F S k v
  rt : ∀ v, v ∈ S → v ∈ D ++ Q
  cl : ∀ u, u ∈ D → ∀ x, x ∈ F u → x ∈ D ++ Q
  rs : (D ++ Q).Pairwise fun u v => ∀ d e, DsS F S d u → DsS F S e v → d ≤ e
  hi : ∀ v r, Q = v :: r → ∀ d, DsS F S d v → (∀ x, x ∈ Q → ∃ e, e ≤ d + 1 ∧ DsS F S e x) ∧ ∀ x e, DsS F S e x → e ≤ d → x ∈ D ++ Q
section
variable {F : Nat → List Nat} {S : List Nat} {v x t N d : Nat} {D Q R : List Nat} {f : Nat → Option Nat}
theorem fq_zero (F : Nat → List Nat) (S : List Nat) : Fq F S [] (frs [] S).1 (fun v => if v ∈ S then some 0 else none) where
  nd := frs_nd1 _ _
  me := fun v => by
    rw [List.nil_append, frs_mem1]
    by_cases h : v ∈ S <;> simp [h]
  dv := fun v k h => by
    by_cases e : v ∈ S
    · rw [if_pos e] at h
      obtain rfl := (Option.some.inj h).symm
      exact dsS_zero.2 e
    · rw [if_neg e] at h; cases h
  rt := fun v h => by rw [List.nil_append, frs_mem1]; exact ⟨h, by simp⟩
  cl := fun u h => by cases h
  rs := by
    rw [List.nil_append]
    refine List.Pairwise.imp_of_mem ?_ (frs_nd1 S [])
    intro u v hu hv _ d e h1 h2
    have := h1.uniq (dsS_zero.2 ((frs_mem1 _ _ _).1 hu).1)
    omega
  hi := fun v r e d h => by
    have hv : v ∈ (frs [] S).1 := by rw [e]; simp
    obtain rfl : d = 0 := h.uniq (dsS_zero.2 ((frs_mem1 _ _ _).1 hv).1)
    refine ⟨fun x hx => ⟨0, by omega, dsS_zero.2 ((frs_mem1 _ _ _).1 hx).1⟩, fun x e h he => ?_⟩
    obtain rfl : e = 0 := by omega
    rw [List.nil_append, frs_mem1]
    exact ⟨dsS_zero.1 h, by simp⟩
theorem Fq.ds (h : Fq F S D Q f) (hv : v ∈ D ++ Q) : ∃ d, f v = some d ∧ DsS F S d v := by
  have := (h.me v).2 hv
  obtain ⟨k, hk⟩ := Option.isSome_iff_exists.1 this
  exact ⟨k, hk, h.dv v k hk⟩
theorem Fq.lt (h : Fq F S D Q f) (hS : ∀ x ∈ S, x < N) (hF : ∀ v, v < N → ∀ x ∈ F v, x < N) (hv : v ∈ D ++ Q) : v < N := by
  obtain ⟨d, -, q⟩ := h.ds hv
  exact blS_lt hS hF d v q.1
theorem Fq.len (h : Fq F S D Q f) (hS : ∀ x ∈ S, x < N) (hF : ∀ v, v < N → ∀ x ∈ F v, x < N) : D.length + Q.length ≤ N := by
  have := nodup_len N _ h.nd (fun x hx => h.lt hS hF hx)
  simpa using this
/-- One more is found. -/
theorem Fq.add (h : Fq F S D (v :: R) f) (hx : x ∈ F v) (hn : f x = none) (hd0 : f v = some d) : Fq F S D (v :: (R ++ [x])) (fun y => if y = x then some (d + 1) else f y) := by
  have hx0 : x ∉ D ++ v :: R := fun k => by
    have := (h.me x).2 k
    rw [hn] at this
    cases this
  have eA : D ++ v :: (R ++ [x]) = (D ++ v :: R) ++ [x] := by simp
  have hd := h.dv v d hd0
  obtain ⟨h1, h2⟩ := h.hi v R rfl d hd
  obtain ⟨e, he, hxe⟩ := hd.next hx
  have hxd : DsS F S (d + 1) x := by
    by_cases q : e ≤ d
    · exact absurd (h2 x e hxe q) hx0
    · obtain rfl : e = d + 1 := by omega
      exact hxe
  have hin : ∀ {y : Nat}, y ∈ D ++ v :: R → y ∈ D ++ v :: (R ++ [x]) := fun k => by rw [eA]; exact List.mem_append.2 (.inl k)
  refine ⟨?_, fun y => ?_, fun y k hy => ?_, fun y hy => hin (h.rt y hy), fun u hu y hy => hin (h.cl u hu y hy), ?_, fun v' r' e0 d' hd' => ?_⟩
  · rw [eA, List.nodup_append]
    refine ⟨h.nd, by simp, fun y hy z hz => ?_⟩
    have := List.mem_singleton.1 hz
    exact fun q => hx0 (by rw [← this, ← q]; exact hy)
  · rw [eA, List.mem_append, ← h.me y, List.mem_singleton]
    by_cases q : y = x
    · simp [q]
    · simp [q]
  · by_cases q : y = x
    · rw [if_pos q] at hy
      obtain rfl := (Option.some.inj hy).symm
      rw [q]; exact hxd
    · rw [if_neg q] at hy
      exact h.dv y k hy
  · rw [eA, List.pairwise_append]
    refine ⟨h.rs, List.pairwise_singleton .., fun u hu y hy d1 e1 q1 q2 => ?_⟩
    have := List.mem_singleton.1 hy
    subst this
    have e2 := q2.uniq hxd
    have rs := h.rs
    rw [List.pairwise_append] at rs
    rcases List.mem_append.1 hu with k | k
    · have := rs.2.2 u k v (by simp) d1 d q1 hd
      omega
    · obtain ⟨e3, k1, k2⟩ := h1 u k
      have := q1.uniq k2
      omega
  · injection e0 with e1 e2
    subst e1
    have := hd'.uniq hd
    subst this
    refine ⟨fun y hy => ?_, fun y e1 q1 q2 => hin (h2 y e1 q1 q2)⟩
    rw [← List.cons_append] at hy
    rcases List.mem_append.1 hy with k | k
    · exact h1 y k
    · have := List.mem_singleton.1 k
      subst this
      exact ⟨_, Nat.le_refl _, hxd⟩
/-- All that it leads to is found. -/
theorem Fq.next (h : Fq F S D (v :: R) f) (ht : ∀ x, x ∈ F v → x ∈ D ++ v :: R) : Fq F S (D ++ [v]) R f := by
  have eA : (D ++ [v]) ++ R = D ++ v :: R := by simp
  obtain ⟨d, -, hd⟩ := h.ds (v := v) (by simp)
  obtain ⟨h1, h2⟩ := h.hi v R rfl d hd
  have cl' : ∀ u, u ∈ D ++ [v] → ∀ x, x ∈ F u → x ∈ D ++ v :: R := fun u hu x hx => by
    rcases List.mem_append.1 hu with k | k
    · exact h.cl u k x hx
    · have := List.mem_singleton.1 k
      subst this
      exact ht x hx
  refine ⟨by rw [eA]; exact h.nd, fun y => by rw [eA]; exact h.me y, h.dv, fun y hy => by rw [eA]; exact h.rt y hy, fun u hu y hy => by rw [eA]; exact cl' u hu y hy, by rw [eA]; exact h.rs, fun v' r' e0 d' hd' => ?_⟩
  subst e0
  rw [eA]
  have rs := h.rs
  rw [List.pairwise_append, List.pairwise_cons, List.pairwise_cons] at rs
  have k1 : d ≤ d' := rs.2.1.1 v' (by simp) d d' hd hd'
  obtain ⟨e1, k2, k3⟩ := h1 v' (by simp)
  have k4 := hd'.uniq k3
  refine ⟨fun y hy => ?_, fun y e q1 q2 => ?_⟩
  · obtain ⟨e2, m1, m2⟩ := h1 y (List.mem_cons_of_mem _ hy)
    exact ⟨e2, by omega, m2⟩
  · by_cases m : e ≤ d
    · exact h2 y e q1 m
    · obtain rfl : e = d + 1 := by omega
      obtain ⟨u, u1, u2⟩ := q1.pred
      have hu := h2 u d u1 (Nat.le_refl _)
      rcases List.mem_append.1 hu with k | k
      · exact h.cl u k y u2
      · rcases List.mem_cons.1 k with k | k
        · subst k
          exact ht y u2
        · rcases List.mem_cons.1 k with k | k
          · subst k
            have := hd'.uniq u1
            omega
          · have := rs.2.1.2.1 u k d' d hd' u1
            omega
/-- There is nothing left. -/
theorem Fq.stop (h : Fq F S D [] f) (v k : Nat) : f v = some k ↔ DsS F S k v := by
  refine ⟨h.dv v k, fun hk => ?_⟩
  have key : ∀ d x, BlS F S d x → x ∈ D := fun d => by
    induction d with
    | zero =>
      intro x hx
      have := h.rt x hx
      rwa [List.append_nil] at this
    | succ d ih =>
      intro x hx
      rcases hx with q | ⟨u, q1, q2⟩
      · exact ih x q
      · have := h.cl u (ih u q1) x q2
        rwa [List.append_nil] at this
  obtain ⟨d, q1, q2⟩ := h.ds (v := v) (by rw [List.append_nil]; exact key k v hk.1)
  rw [q1, hk.uniq q2]
theorem Fq.none (h : Fq F S D [] f) (v : Nat) : f v = none ↔ ∀ k, ¬ DsS F S k v := by
  constructor
  · intro q k hk
    rw [(h.stop v k).2 hk] at q
    cases q
  · intro q
    cases e : f v with
    | none => rfl
    | some k => exact absurd (h.dv v k e) (q k)
end
end GM
end Go.Proofs.Ytgedmfcfhdfoeaa
