/- The sieve's automaton: the rows and the backs are right. -/
import Derived.Test.YtceaklefdahfkabAm2
namespace Go.Proofs.Ytceaklefdahfkab
open Go.RowKit
/-- The longest ending of which something holds. -/
def lsf (P : List Nat → Bool) : List Nat → List Nat
  | [] => []
  | x :: l => if P (x :: l) then x :: l else lsf P l
/-- The longest shorter ending. -/
def bkf (P : List Nat → Bool) : List Nat → List Nat
  | [] => []
  | _ :: l => lsf P l
theorem lsf_app (P : List Nat → Bool) (hp : ∀ x c, P (x ++ [c]) = true → P x = true) (c : Nat) : ∀ x, lsf P (x ++ [c]) = lsf P (lsf P x ++ [c])
  | [] => rfl
  | a :: x => by
    by_cases h : P (a :: x) = true
    · rw [lsf, if_pos h]
    · have h' : ¬ P (a :: (x ++ [c])) = true := fun h2 => h (hp (a :: x) c h2)
      rw [lsf, if_neg h, List.cons_append, lsf, if_neg h']
      exact lsf_app P hp c x
theorem lsf_step (P : List Nat → Bool) (hp : ∀ x c, P (x ++ [c]) = true → P x = true) (c : Nat) (x : List Nat) (h : ¬ P (x ++ [c]) = true) : lsf P (x ++ [c]) = if x = [] then [] else lsf P (bkf P x ++ [c]) := by
  cases x with
  | nil =>
    rw [if_pos rfl]
    show (if P ([] ++ [c]) = true then _ else _) = _
    rw [if_neg h]; rfl
  | cons a x =>
    have h' : ¬ P (a :: (x ++ [c])) = true := h
    rw [if_neg (by simp), List.cons_append, lsf, if_neg h', bkf]
    exact lsf_app P hp c x
theorem bkf_app (P : List Nat → Bool) (hp : ∀ x c, P (x ++ [c]) = true → P x = true) (c : Nat) (x : List Nat) (h : x ≠ []) : bkf P (x ++ [c]) = lsf P (bkf P x ++ [c]) := by
  cases x with
  | nil => exact absurd rfl h
  | cons a x =>
    rw [List.cons_append, bkf, bkf]
    exact lsf_app P hp c x
/-- The states' texts, and how the table tells them. -/
structure Au (S : List (List Nat)) (t : Tbl) : Prop where
  s0 : S.getD 0 [] = []
  ll : t.letters.length = S.length
  ne : ∀ u, 0 < u → u < S.length → S.getD u [] ≠ []
  f0 : t.firsts.getD 0 0 = 1
  fe : t.firsts.getD (t.firsts.length - 1) 0 = S.length
  ch : ∀ s u, s + 1 < t.firsts.length → t.firsts.getD s 0 ≤ u → u < t.firsts.getD (s + 1) 0 → S.getD u [] = S.getD s [] ++ [t.letters.getD u 0]
  cv : ∀ s c, s + 1 < t.firsts.length → S.getD s [] ++ [c] ∈ S → ∃ u, t.firsts.getD s 0 ≤ u ∧ u < t.firsts.getD (s + 1) 0 ∧ t.letters.getD u 0 = c
  pc : ∀ x c, x ++ [c] ∈ S → x ∈ S
def inS (S : List (List Nat)) (x : List Nat) : Bool := decide (x ∈ S)
theorem Au.hp {S : List (List Nat)} {t : Tbl} (h : Au S t) : ∀ x c, inS S (x ++ [c]) = true → inS S x = true := fun x c h2 => by
  unfold inS at h2 ⊢
  rw [decide_eq_true_iff] at h2 ⊢
  exact h.pc x c h2
/-- A state's number. -/
def Isx (S : List (List Nat)) (v : Nat) (x : List Nat) : Prop := v < S.length ∧ S.getD v [] = x
theorem Isx.mem {S : List (List Nat)} {v : Nat} {x : List Nat} (h : Isx S v x) : inS S x = true := by
  unfold inS
  rw [decide_eq_true_iff, ← h.2]
  have h1 := h.1
  have : S.getD v [] = S[v] := by simp [List.getD, h1]
  rw [this]; exact List.getElem_mem _
theorem lsf_mem {P : List Nat → Bool} {x : List Nat} (h : P x = true) : lsf P x = x := by
  cases x with
  | nil => rfl
  | cons a x => rw [lsf, if_pos h]
theorem getD_mem {l : List Nat} {j : Nat} (h : j < l.length) : l.getD j 0 ∈ l := by
  have e : l.getD j 0 = l[j] := by simp [List.getD, h]
  rw [e]; exact List.getElem_mem _
def RR (S : List (List Nat)) (t : Tbl) : Prop := ∀ u c, u < t.rows.length → c < 256 → Isx S ((t.rows.getD u []).getD c 0) (lsf (inS S) (S.getD u [] ++ [c]))
def RB (S : List (List Nat)) (t : Tbl) (B : Nat) : Prop := ∀ u, u < B → Isx S (t.backs.getD u 0) (bkf (inS S) (S.getD u []))
theorem nx_right {S : List (List Nat)} {t : Tbl} (ha : Au S t) (hk : Bk t) (hr : RR S t) (B : Nat) (hb : RB S t B) (h0 : 0 < t.rows.length) (c : Nat) (hc : c < 256) : ∀ f s, s < f → s < B → s + 1 < t.firsts.length → Isx S (nx t c f s) (lsf (inS S) (S.getD s [] ++ [c]))
  | 0, _, h, _, _ => by omega
  | f + 1, s, h1, h2, h3 => by
    rw [nx]
    by_cases h4 : s < t.rows.length
    · rw [if_pos h4]; exact hr s c h4 hc
    · rw [if_neg h4]
      have hnw := hk.nw (s := s) (by omega) h3
      have hsl := seg_len hnw
      have hll := hnw.ll
      have hle := hnw.le
      by_cases h5 : (seg t s).idxOf c < (seg t s).length
      · rw [if_pos h5]
        have hg : (seg t s).getD ((seg t s).idxOf c) 0 = c := by
          simp [List.getD, h5]
        rw [seg_get _ (by omega)] at hg
        have hx := ha.ch s (t.firsts.getD s 0 + (seg t s).idxOf c) h3 (by omega) (by omega)
        rw [hg] at hx
        have hI : Isx S (t.firsts.getD s 0 + (seg t s).idxOf c) (S.getD s [] ++ [c]) := ⟨by rw [← ha.ll]; omega, hx⟩
        rw [lsf_mem hI.mem]; exact hI
      · rw [if_neg h5]
        have hno : ¬ inS S (S.getD s [] ++ [c]) = true := fun h6 => by
          unfold inS at h6
          rw [decide_eq_true_iff] at h6
          obtain ⟨u, q1, q2, q3⟩ := ha.cv s c h3 h6
          apply h5
          apply List.idxOf_lt_length_of_mem
          have : (seg t s).getD (u - t.firsts.getD s 0) 0 = c := by rw [seg_get _ (by omega), show t.firsts.getD s 0 + (u - t.firsts.getD s 0) = u by omega, q3]
          have hl : u - t.firsts.getD s 0 < (seg t s).length := by omega
          rw [← this]
          exact getD_mem hl
        have hsS : s < S.length := by
          have := hk.low s h3
          have := hk.last s (by omega)
          rw [← ha.ll]; omega
        rw [lsf_step _ ha.hp c _ hno, if_neg (ha.ne s (by omega) hsS)]
        have hbs := hnw.bs
        have ih := nx_right ha hk hr B hb h0 c hc f (t.backs.getD s 0) (by omega) (by omega) (by omega)
        rw [(hb s h2).2] at ih
        exact ih
theorem rwl_at (t : Tbl) (f : Nat) (r : List Nat) (hr : r.length = 256) (c : Nat) (hc : c < 256) : ∀ k, (∃ u, f ≤ u ∧ u < f + k ∧ t.letters.getD u 0 = c ∧ (rwl t f r k).getD c 0 = u) ∨ ((∀ u, f ≤ u → u < f + k → t.letters.getD u 0 ≠ c) ∧ (rwl t f r k).getD c 0 = r.getD c 0)
  | 0 => .inr ⟨fun u h1 h2 => by omega, rfl⟩
  | k + 1 => by
    rw [rwl]
    have hl := rwl_len t f r k
    by_cases h : t.letters.getD (f + k) 0 = c
    · refine .inl ⟨f + k, by omega, by omega, h, ?_⟩
      rw [h]
      simp [List.getD, hl, hr, hc]
    · have hs : ((rwl t f r k).set (t.letters.getD (f + k) 0) (f + k)).getD c 0 = (rwl t f r k).getD c 0 := by
        rw [List.getD, List.getElem?_set_ne h, ← List.getD]
      rw [hs]
      rcases rwl_at t f r hr c hc k with ⟨u, h1, h2, h3, h4⟩ | ⟨h1, h2⟩
      · exact .inl ⟨u, h1, by omega, h3, h4⟩
      · refine .inr ⟨fun u h3 h4 => ?_, h2⟩
        by_cases h5 : u = f + k
        · subst h5; exact h
        · exact h1 u h3 (by omega)
theorem rwO_right {S : List (List Nat)} {t : Tbl} (ha : Au S t) (hk : Bk t) (hr : RR S t) (s : Nat) (hs : s + 1 < t.firsts.length) (he : t.rows.length = s) (hb : 0 < s → Isx S (t.backs.getD s 0) (bkf (inS S) (S.getD s []))) (c : Nat) (hc : c < 256) : Isx S ((rwO t s).getD c 0) (lsf (inS S) (S.getD s [] ++ [c])) := by
  have hlow := hk.low s hs
  have hlast := hk.last s (by omega)
  have hlast2 := hk.last (s + 1) hs
  have hmono := hk.mono s (s + 1) (by omega) hs
  have hll := ha.ll
  unfold rwO
  have hr0 : (rw0 t s).length = 256 := hk.rw0_len fun h0 => by rw [he]; exact hk.bs s h0
  rcases rwl_at t (t.firsts.getD s 0) (rw0 t s) hr0 c hc (t.firsts.getD (s + 1) 0 - t.firsts.getD s 0) with ⟨u, h1, h2, h3, h4⟩ | ⟨h1, h2⟩
  · rw [h4]
    have hx := ha.ch s u hs h1 (by omega)
    rw [h3] at hx
    have hI : Isx S u (S.getD s [] ++ [c]) := ⟨by omega, hx⟩
    rw [lsf_mem hI.mem]; exact hI
  · rw [h2]
    have hno : ¬ inS S (S.getD s [] ++ [c]) = true := fun h6 => by
      unfold inS at h6
      rw [decide_eq_true_iff] at h6
      obtain ⟨u, q1, q2, q3⟩ := ha.cv s c hs h6
      exact h1 u q1 (by omega) q3
    rw [lsf_step _ ha.hp c _ hno]
    unfold rw0
    by_cases h0 : 0 < s
    · rw [if_pos h0, if_neg (ha.ne s h0 (by omega))]
      have := hr (t.backs.getD s 0) c (by rw [he]; exact hk.bs s h0) hc
      rw [(hb h0).2] at this
      exact this
    · have : s = 0 := by omega
      subst this
      rw [if_neg h0, ha.s0, if_pos rfl]
      have e : (List.replicate 256 0).getD c 0 = 0 := by
        simp only [List.getD, List.getElem?_replicate]
        split <;> rfl
      rw [e]
      exact ⟨by omega, ha.s0⟩
theorem Au.same {S : List (List Nat)} {t t' : Tbl} (h : Au S t) (h1 : t'.firsts = t.firsts) (h2 : t'.letters = t.letters) : Au S t' := by
  refine ⟨h.s0, by rw [h2]; exact h.ll, h.ne, by rw [h1]; exact h.f0, by rw [h1]; exact h.fe, by rw [h1, h2]; exact h.ch, by rw [h1, h2]; exact h.cv, h.pc⟩
theorem lbR_right {S : List (List Nat)} {t : Tbl} (ha : Au S t) (hk : Bk t) (hr : RR S t) (s : Nat) (hs : s + 1 < t.firsts.length) (he : t.rows.length = min s 64) (hb : 0 < s → Isx S (t.backs.getD s 0) (bkf (inS S) (S.getD s []))) : RR S (lbR t s) := by
  unfold lbR
  by_cases h : t.rows.length < 64
  · rw [if_pos h]
    intro u c hu hc
    simp only [List.length_append, List.length_singleton] at hu
    show Isx S (((t.rows ++ [rwO t s]).getD u []).getD c 0) _
    by_cases h2 : u < t.rows.length
    · have : (t.rows ++ [rwO t s]).getD u [] = t.rows.getD u [] := by simp [List.getD, List.getElem?_append_left h2]
      rw [this]; exact hr u c h2 hc
    · have e : u = t.rows.length := by omega
      have e2 : u = s := by omega
      have : (t.rows ++ [rwO t s]).getD u [] = rwO t s := by rw [e]; simp [List.getD]
      rw [this, e2]
      exact rwO_right ha hk hr s hs (by omega) hb c hc
  · rw [if_neg h]; exact hr
theorem lbF_right {S : List (List Nat)} {t : Tbl} (ha : Au S t) (hk : Bk t) (hlb : Byt t.letters) (hr : RR S t) (h0 : 0 < t.rows.length) (s : Nat) (hs0 : 0 < s) (hs : s + 1 < t.firsts.length) (hb : RB S t (t.firsts.getD s 0)) : ∀ k, t.firsts.getD s 0 + k ≤ t.firsts.getD (s + 1) 0 → RB S (lbF t s k) (t.firsts.getD s 0 + k)
  | 0, _ => hb
  | k + 1, hkk => by
    have ih := lbF_right ha hk hlb hr h0 s hs0 hs hb k (by omega)
    obtain ⟨e1, e2, e3, _⟩ := lbF_same t s k
    have hkF := hk.lbF h0 hs0 hs k (by omega)
    have hlow := hk.low s hs
    have hlast2 := hk.last (s + 1) hs
    have hll := ha.ll
    have haF : Au S (lbF t s k) := ha.same e1 e2
    have hrF : RR S (lbF t s k) := by unfold RR; rw [e3]; exact hr
    have hbs := hkF.bs s hs0
    have hc := getD_byt hlb (t.firsts.getD s 0 + k)
    have hn := nx_right haF hkF hrF (t.firsts.getD s 0 + k) ih (by rw [e3]; exact h0) (t.letters.getD (t.firsts.getD s 0 + k) 0) hc ((lbF t s k).backs.getD s 0 + 1) ((lbF t s k).backs.getD s 0) (by omega) (by omega) (by rw [e1]; omega)
    rw [(ih s (by omega)).2] at hn
    intro u hu
    rw [lbF]
    show Isx S ((List.set _ _ _).getD u 0) _
    by_cases h : t.firsts.getD s 0 + k = u
    · subst h
      have hbl : (lbF t s k).backs.length = S.length := by rw [hkF.bl, e2]; exact hll
      have e : ((lbF t s k).backs.set (t.firsts.getD s 0 + k) (nx (lbF t s k) (t.letters.getD (t.firsts.getD s 0 + k) 0) ((lbF t s k).backs.getD s 0 + 1) ((lbF t s k).backs.getD s 0))).getD (t.firsts.getD s 0 + k) 0 = nx (lbF t s k) (t.letters.getD (t.firsts.getD s 0 + k) 0) ((lbF t s k).backs.getD s 0 + 1) ((lbF t s k).backs.getD s 0) := by
        rw [List.getD, List.getElem?_set_self (by omega)]; rfl
      rw [e, ha.ch s _ hs (by omega) (by omega), bkf_app _ ha.hp _ _ (ha.ne s hs0 (by omega))]
      exact hn
    · rw [List.getD, List.getElem?_set_ne h, ← List.getD]
      exact ih u (by omega)
theorem lbS_right {S : List (List Nat)} {t : Tbl} (ha : Au S t) (hk : Bk t) (hd : Bd t) (hlb : Byt t.letters) (hr : t.rows = []) (hbk : t.backs = List.replicate t.letters.length 0) : ∀ s, s + 1 ≤ t.firsts.length → RR S (lbS t s) ∧ RB S (lbS t s) (t.firsts.getD s 0)
  | 0, _ => by
    refine ⟨fun u c hu => ?_, fun u hu => ?_⟩
    · have : (lbS t 0).rows = [] := hr
      rw [this] at hu; simp at hu
    · rw [ha.f0] at hu
      have : u = 0 := by omega
      subst this
      have e : (lbS t 0).backs.getD 0 0 = 0 := by
        show t.backs.getD 0 0 = 0
        rw [hbk]
        simp only [List.getD, List.getElem?_replicate]
        split <;> rfl
      rw [e, ha.s0]
      refine ⟨?_, ha.s0⟩
      by_cases h : 0 < S.length
      · exact h
      · have hl := hk.pos 0 (by omega)
        have hl2 := hk.last 0 (by omega)
        have := ha.ll
        omega
  | s + 1, hs => by
    obtain ⟨h1, h2⟩ := lbS_right ha hk hd hlb hr hbk s (by omega)
    obtain ⟨k1, d1, r1⟩ := lbS_ok t hk hd hr s (by omega)
    obtain ⟨e1, e2, _⟩ := lbS_same t s
    have haS : Au S (lbS t s) := ha.same e1 e2
    have hlow := hk.low s (by omega)
    have hRR := lbR_right haS k1 h1 s (by rw [e1]; omega) r1 fun h0 => h2 s hlow
    have hB1 : RB S (lbR (lbS t s) s) (t.firsts.getD s 0) := by unfold RB; rw [(lbR_same (lbS t s) s).2.2.2.2.2]; exact h2
    obtain ⟨f1, f2, _⟩ := lbR_same (lbS t s) s
    have haR : Au S (lbR (lbS t s) s) := haS.same f1 f2
    have kR : Bk (lbR (lbS t s) s) := k1.lbR (by rw [e1]; omega) r1
    have rR := lbR_rows (lbS t s) s r1
    rw [lbS]
    by_cases h0 : s = 0
    · subst h0
      rw [if_pos rfl]
      refine ⟨hRR, fun u hu => ?_⟩
      by_cases hu0 : u = 0
      · subst hu0; exact hB1 0 (by rw [ha.f0]; omega)
      · have hb0 : (lbR (lbS t 0) 0).backs.getD u 0 = 0 := by
          rw [(lbR_same (lbS t 0) 0).2.2.2.2.2]
          show t.backs.getD u 0 = 0
          rw [hbk]
          simp only [List.getD, List.getElem?_replicate]
          split <;> rfl
        rw [hb0, ha.ch 0 u (by omega) (by rw [ha.f0]; omega) hu, ha.s0]
        exact ⟨(hB1 0 (by rw [ha.f0]; omega)).1 |> fun _ => by
          have hl := hk.pos 0 (by omega)
          have hl2 := hk.last 0 (by omega)
          have := ha.ll
          omega, ha.s0⟩
    · rw [if_neg h0]
      have hm := hk.mono s (s + 1) (by omega) (by omega)
      have eF : (lbR (lbS t s) s).firsts = t.firsts := f1.trans e1
      rw [eF]
      have hlR : Byt (lbR (lbS t s) s).letters := by rw [f2, e2]; exact hlb
      have hq := lbF_right haR kR hlR hRR (by rw [rR]; omega) s (by omega) (by rw [eF]; omega) (by rw [eF]; exact hB1) (t.firsts.getD (s + 1) 0 - t.firsts.getD s 0) (by rw [eF]; omega)
      rw [eF, show t.firsts.getD s 0 + (t.firsts.getD (s + 1) 0 - t.firsts.getD s 0) = t.firsts.getD (s + 1) 0 by omega] at hq
      refine ⟨?_, hq⟩
      unfold RR
      rw [(lbF_same (lbR (lbS t s) s) s _).2.2.1]
      exact hRR
end Go.Proofs.Ytceaklefdahfkab
