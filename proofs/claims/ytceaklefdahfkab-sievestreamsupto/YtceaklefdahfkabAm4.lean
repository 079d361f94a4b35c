/- The sieve's automaton: the table that is laid down tells the states' texts. -/
import Derived.Test.YtceaklefdahfkabAm3
namespace Go.Proofs.Ytceaklefdahfkab
open Go.RowKit
/-- Words of one length, in order, none twice. -/
structure Wd (ws : List (List Nat)) (m : Nat) : Prop where
  m0 : 0 < m
  ne : ws ≠ []
  len : ∀ i, i < ws.length → (ws.getD i []).length = m
  asc : Asc ws
  tw : ∀ i, i + 1 < ws.length → ws.getD i [] ≠ ws.getD (i + 1) []
theorem getS_mem {S : List (List Nat)} {j : Nat} (h : j < S.length) : S.getD j [] ∈ S := by
  have e : S.getD j [] = S[j] := by simp [List.getD, h]
  rw [e]; exact List.getElem_mem _
theorem mem_getS {S : List (List Nat)} {x : List Nat} (h : x ∈ S) : ∃ j, j < S.length ∧ S.getD j [] = x := by
  obtain ⟨j, hj, rfl⟩ := List.mem_iff_getElem.1 h
  exact ⟨j, hj, by simp [List.getD, hj]⟩
theorem lst_app (x : List Nat) (c : Nat) : lst (x ++ [c]) = c := by simp [lst, List.getD]
theorem lD_f0 (d : Nat) (ws : List (List Nat)) (sh : List Nat) (s : T3) (h : s.2.2.getD 0 0 = 1) (hn : 0 < s.2.2.length) : ∀ i, (lD d ws sh s i).2.2.getD 0 0 = 1 ∧ 0 < (lD d ws sh s i).2.2.length
  | 0 => ⟨h, hn⟩
  | i + 1 => by
    have ih := lD_f0 d ws sh s h hn i
    rw [lD, l1]
    split
    · simp only
      split
      · rw [getD_snoc, if_pos ih.2]; exact ⟨ih.1, by simp⟩
      · exact ih
    · exact ih
theorem lS_f0 (ws : List (List Nat)) (sh : List Nat) : ∀ d, (lS ws sh d).2.2.getD 0 0 = 1 ∧ 0 < (lS ws sh d).2.2.length
  | 0 => ⟨rfl, by simp [lS]⟩
  | d + 1 => lD_f0 (d + 1) ws sh _ (lS_f0 ws sh d).1 (lS_f0 ws sh d).2 _
theorem Wd.gat {ws : List (List Nat)} {m : Nat} (_ : Wd ws m) (d i : Nat) (hd : d ≤ m) (hi : i < ws.length) : (gS ws (shr ws) m).getD (idx ws (shr ws) d i) [] = (ws.getD i []).take d := gS_at ws (shr ws) (shr_0 ws) (shr_Shr ws) d m i hd hi
theorem Wd.s0 {ws : List (List Nat)} {m : Nat} (_ : Wd ws m) : (gS ws (shr ws) m).getD 0 [] = [] := by rw [gS_old ws (shr ws) 0 0 (by simp [gS]) m (by omega)]; rfl
theorem Wd.sh_lt {ws : List (List Nat)} {m : Nat} (h : Wd ws m) (i : Nat) (hi : i < ws.length) : (shr ws).getD i 0 < m := by
  have h0 := h.m0
  rw [shr_get ws i hi]
  by_cases h1 : i = 0
  · rw [if_pos h1]; exact h0
  · rw [if_neg h1]
    rcases Nat.lt_or_ge (cpf (ws.getD i []) (ws.getD (i - 1) [])) m with h2 | h2
    · exact h2
    · have := take_cpf _ _ m h2
      rw [List.take_of_length_le (by rw [h.len i hi]; exact Nat.le_refl _), List.take_of_length_le (by rw [h.len (i - 1) (by omega)]; exact Nat.le_refl _)] at this
      have h3 := h.tw (i - 1) (by omega)
      rw [show i - 1 + 1 = i by omega] at h3
      exact absurd this.symm h3
theorem Wd.cnt_m {ws : List (List Nat)} {m : Nat} (h : Wd ws m) : ∀ i, i ≤ ws.length → cnt (shr ws) m i = i
  | 0, _ => rfl
  | i + 1, hi => by rw [cnt, Wd.cnt_m h i (by omega), if_pos (h.sh_lt i (by omega))]
/-- A state: the first, or a beginning. -/
theorem Wd.ex {ws : List (List Nat)} {m : Nat} (h : Wd ws m) (t : Nat) (ht : t < (gS ws (shr ws) m).length) : t = 0 ∨ ∃ d i, 0 < d ∧ d ≤ m ∧ i < ws.length ∧ t = idx ws (shr ws) d i ∧ (gS ws (shr ws) m).getD t [] = (ws.getD i []).take d ∧ ((gS ws (shr ws) m).getD t []).length = d := by
  rcases gS_ex ws (shr ws) m t ht with h1 | ⟨d, i, h1, h2, h3, _, h5⟩
  · exact .inl h1
  · refine .inr ⟨d, i, h1, h2, h3, h5, ?_, ?_⟩
    · rw [h5]; exact h.gat d i h2 h3
    · rw [h5, h.gat d i h2 h3, List.length_take, h.len i h3, Nat.min_eq_left h2]
theorem Wd.inj {ws : List (List Nat)} {m : Nat} (h : Wd ws m) (a b : Nat) (ha : a < (gS ws (shr ws) m).length) (hb : b < (gS ws (shr ws) m).length) (he : (gS ws (shr ws) m).getD a [] = (gS ws (shr ws) m).getD b []) : a = b := by
  rcases h.ex a ha with h1 | ⟨d, i, p1, p2, p3, p4, p5, p6⟩
  · rcases h.ex b hb with h2 | ⟨d', i', q1, q2, q3, q4, q5, q6⟩
    · rw [h1, h2]
    · rw [h1, h.s0] at he
      rw [← he] at q6
      simp at q6; omega
  · rcases h.ex b hb with h2 | ⟨d', i', q1, q2, q3, q4, q5, q6⟩
    · rw [h2, h.s0] at he
      rw [he] at p6
      simp at p6; omega
    · have hd : d = d' := by rw [← p6, ← q6, he]
      subst hd
      rw [p5, q5] at he
      rw [p4, q4]
      rcases Nat.le_total i i' with h3 | h3
      · exact idx_same ws h.asc m h.len d p2 i i' h3 q3 he
      · exact (idx_same ws h.asc m h.len d p2 i' i h3 p3 he.symm).symm
/-- How many states are no whole words. -/
theorem Wd.parts {ws : List (List Nat)} {m : Nat} (h : Wd ws m) (vs : List Nat) : (mkT ws vs m).firsts.length - 1 = (gS ws (shr ws) (m - 1)).length := by
  show ((lS ws (shr ws) m).2.2 ++ [_]).length - 1 = _
  rw [List.length_append, List.length_singleton, Nat.add_sub_cancel]
  obtain ⟨k, hk⟩ : ∃ k, m = k + 1 := ⟨m - 1, by have := h.m0; omega⟩
  rw [hk, Nat.add_sub_cancel]; exact lS_fl ws (shr ws) k
theorem Wd.all {ws : List (List Nat)} {m : Nat} (h : Wd ws m) : (gS ws (shr ws) m).length = (gS ws (shr ws) (m - 1)).length + ws.length := by
  obtain ⟨k, hk⟩ : ∃ k, m = k + 1 := ⟨m - 1, by have := h.m0; omega⟩
  have hc := h.cnt_m ws.length (Nat.le_refl _)
  rw [hk] at hc ⊢
  rw [Nat.add_sub_cancel, gS_len, hc]
theorem Wd.full {ws : List (List Nat)} {m : Nat} (h : Wd ws m) (i : Nat) (hi : i < ws.length) : (gS ws (shr ws) m).getD ((gS ws (shr ws) (m - 1)).length + i) [] = ws.getD i [] := by
  have := h.gat m i (Nat.le_refl _) hi
  rw [List.take_of_length_le (by rw [h.len i hi]; exact Nat.le_refl _)] at this
  rw [← this]
  unfold idx
  rw [if_neg (by have := h.m0; omega), h.cnt_m (i + 1) (by omega)]
  rfl
theorem Wd.short {ws : List (List Nat)} {m : Nat} (h : Wd ws m) (u : Nat) (hu : u < (gS ws (shr ws) (m - 1)).length) : ((gS ws (shr ws) m).getD u []).length < m := by
  have h0 := h.m0
  rcases gS_ex ws (shr ws) (m - 1) u hu with h1 | ⟨d, i, h1, h2, h3, _, h5⟩
  · rw [h1, h.s0]; simpa using h0
  · rw [h5, h.gat d i (by omega) h3, List.length_take, h.len i h3]; omega
theorem Wd.pf {ws : List (List Nat)} {m : Nat} (h : Wd ws m) : PF (gS ws (shr ws) m) (lS ws (shr ws) m).2.2 := lS_pf ws (shr ws) (shr_0 ws) (shr_Shr ws) m h.len h.ne m (Nat.le_refl _)
theorem Wd.au {ws : List (List Nat)} {m : Nat} (h : Wd ws m) (vs : List Nat) : Au (gS ws (shr ws) m) (mkT ws vs m) := by
  have hL := (lS_gS ws (shr ws) m h.len m (Nat.le_refl _)).1
  have hpf := h.pf
  have hiv := (lS_iv ws (shr ws) (shr_0 ws) m).1
  have hf0 := lS_f0 ws (shr ws) m
  have hgl := lS_gl ws (shr ws) m h.len m (Nat.le_refl _)
  have hp := h.parts vs
  have hal := h.all
  have hlet : ∀ u, u < (gS ws (shr ws) m).length → (mkT ws vs m).letters.getD u 0 = lst ((gS ws (shr ws) m).getD u []) := fun u hu => by
    show (lS ws (shr ws) m).1.getD u 0 = _
    rw [hL]
    simp [List.getD, hu]
  have hfi : (mkT ws vs m).firsts = (lS ws (shr ws) m).2.2 ++ [(gS ws (shr ws) m).length] := by rw [← hgl]; rfl
  rw [hfi, List.length_append, List.length_singleton, Nat.add_sub_cancel] at hp
  have hne : ∀ u, 0 < u → u < (gS ws (shr ws) m).length → (gS ws (shr ws) m).getD u [] ≠ [] := fun u h1 h2 h3 => by
    have := h.inj u 0 h2 (gS_pos _ _ _) (by rw [h3, h.s0])
    omega
  revert hp hpf hiv hf0 hfi
  generalize (lS ws (shr ws) m).2.2 = F
  intro hpf hiv hf0 hp hfi
  have hpar : ∀ u, 0 < u → u < (gS ws (shr ws) m).length → ∃ p, p < F.length ∧ F.getD p 0 ≤ u ∧ u < (F ++ [(gS ws (shr ws) m).length]).getD (p + 1) 0 ∧ (gS ws (shr ws) m).getD u [] = (gS ws (shr ws) m).getD p [] ++ [lst ((gS ws (shr ws) m).getD u [])] := fun u h1 h2 => by
    obtain ⟨p, q1, q2, q3, q4⟩ := hpf u h1 h2
    refine ⟨p, q1, q2, ?_, q4⟩
    rw [getD_snoc]
    by_cases h3 : p + 1 < F.length
    · rw [if_pos h3]; exact q3 (p + 1) (by omega) h3
    · rw [if_neg h3, if_pos (by omega)]; exact h2
  refine ⟨h.s0, ?_, hne, ?_, ?_, ?_, ?_, ?_⟩
  · show (lS ws (shr ws) m).1.length = _; exact hgl
  · rw [hfi, getD_snoc, if_pos hf0.2]; exact hf0.1
  · rw [hfi, List.length_append, List.length_singleton, Nat.add_sub_cancel, getD_snoc, if_neg (by omega), if_pos rfl]
  · rw [hfi]
    intro s u h1 h2 h3
    simp only [List.length_append, List.length_singleton] at h1
    have hs : s < F.length := by omega
    rw [getD_snoc, if_pos hs] at h2
    have hpos := hiv.pos s hs
    have hu : u < (gS ws (shr ws) m).length := by
      rw [getD_snoc] at h3
      by_cases h4 : s + 1 < F.length
      · rw [if_pos h4] at h3
        have := hiv.last (s + 1) h4
        rw [hgl] at this; omega
      · rw [if_neg h4, if_pos (by omega)] at h3; exact h3
    obtain ⟨p, q1, q2, q3, q4⟩ := hpf u (by omega) hu
    have hps : p = s := by
      rcases Nat.lt_trichotomy p s with h4 | h4 | h4
      · have := q3 s h4 hs; omega
      · exact h4
      · rw [getD_snoc, if_pos (by omega)] at h3
        have := hiv.mono (s + 1) p (by omega) q1
        omega
    rw [hlet u hu, ← hps]; exact q4
  · rw [hfi]
    intro s c h1 h2
    simp only [List.length_append, List.length_singleton] at h1
    have hs : s < F.length := by omega
    obtain ⟨u, hu, hu2⟩ := mem_getS h2
    have hu0 : 0 < u := by
      rcases Nat.eq_zero_or_pos u with h3 | h3
      · rw [h3, h.s0] at hu2; simp at hu2
      · exact h3
    obtain ⟨p, q1, q2, q3, q4⟩ := hpar u hu0 hu
    rw [hu2, lst_app] at q4
    have q5 := List.append_cancel_right q4
    have hps := h.inj s p (by omega) (by omega) q5
    subst hps
    exact ⟨u, by rw [getD_snoc, if_pos hs]; exact q2, q3, by rw [hlet u hu, hu2, lst_app]⟩
  · intro x c h2
    obtain ⟨u, hu, hu2⟩ := mem_getS h2
    have hu0 : 0 < u := by
      rcases Nat.eq_zero_or_pos u with h3 | h3
      · rw [h3, h.s0] at hu2; simp at hu2
      · exact h3
    obtain ⟨p, q1, _, _, q4⟩ := hpar u hu0 hu
    rw [hu2, lst_app] at q4
    rw [List.append_cancel_right q4]
    exact getS_mem (by omega)
end Go.Proofs.Ytceaklefdahfkab
