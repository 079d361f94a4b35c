/- Several texts in one: Am1, Am2, Am3, Am4, Am5. -/
import Derived.Test.YtceaklefdahfkabSv16
/- The sieve's automaton: which beginnings the states are. -/
namespace Go.Proofs.Ytceaklefdahfkab
open Go.RowKit
/-- The states' texts, beside the letters. -/
def g1 (d : Nat) (S : List (List Nat)) (wd : List Nat) (sh : Nat) : List (List Nat) := if sh < d then S ++ [wd.take d] else S
def gD (d : Nat) (ws : List (List Nat)) (sh : List Nat) (S : List (List Nat)) : Nat → List (List Nat)
  | 0 => S
  | i + 1 => g1 d (gD d ws sh S i) (ws.getD i []) (sh.getD i 0)
def gS (ws : List (List Nat)) (sh : List Nat) : Nat → List (List Nat)
  | 0 => [[]]
  | d + 1 => gD (d + 1) ws sh (gS ws sh d) ws.length
/-- How many of the first words begin something new at a length. -/
def cnt (sh : List Nat) (e : Nat) : Nat → Nat
  | 0 => 0
  | i + 1 => cnt sh e i + if sh.getD i 0 < e then 1 else 0
theorem cnt_mono (sh : List Nat) (e : Nat) {i j : Nat} (h : i ≤ j) : cnt sh e i ≤ cnt sh e j := by
  induction j with
  | zero => have : i = 0 := by omega
            subst this; exact Nat.le_refl _
  | succ j ih =>
    by_cases h2 : i = j + 1
    · subst h2; exact Nat.le_refl _
    · have := ih (by omega)
      rw [cnt]; omega
theorem cnt_pos (sh : List Nat) (e : Nat) (h0 : sh.getD 0 0 = 0) (he : 0 < e) (i : Nat) : 1 ≤ cnt sh e (i + 1) := by
  have := cnt_mono sh e (i := 1) (j := i + 1) (by omega)
  have h1 : cnt sh e 1 = 1 := by simp only [cnt]; rw [h0, if_pos he]
  omega
theorem cnt_ex (sh : List Nat) (e : Nat) : ∀ k j, j < cnt sh e k → ∃ i, i < k ∧ sh.getD i 0 < e ∧ cnt sh e (i + 1) = j + 1
  | 0, _, h => by simp [cnt] at h
  | k + 1, j, h => by
    by_cases h1 : j < cnt sh e k
    · obtain ⟨i, h2, h3, h4⟩ := cnt_ex sh e k j h1
      exact ⟨i, by omega, h3, h4⟩
    · rw [cnt] at h
      by_cases h2 : sh.getD k 0 < e
      · rw [if_pos h2] at h
        exact ⟨k, by omega, h2, by rw [cnt, if_pos h2]; omega⟩
      · rw [if_neg h2] at h; omega
theorem gD_len (d : Nat) (ws : List (List Nat)) (sh : List Nat) (S : List (List Nat)) : ∀ i, (gD d ws sh S i).length = S.length + cnt sh d i
  | 0 => rfl
  | i + 1 => by
    rw [gD, g1, cnt]
    have := gD_len d ws sh S i
    split
    · rw [List.length_append, List.length_singleton]; omega
    · omega
theorem gD_old (d : Nat) (ws : List (List Nat)) (sh : List Nat) (S : List (List Nat)) (j k : Nat) (hj : j < (gD d ws sh S k).length) : ∀ i, k ≤ i → (gD d ws sh S i).getD j [] = (gD d ws sh S k).getD j [] := by
  intro i hi
  induction i with
  | zero => have : k = 0 := by omega
            subst this; rfl
  | succ i ih =>
    by_cases h2 : k = i + 1
    · subst h2; rfl
    · rw [← ih (by omega), gD, g1]
      split
      · have h3 := cnt_mono sh d (i := k) (j := i) (by omega)
        have h4 := gD_len d ws sh S k
        have h5 := gD_len d ws sh S i
        rw [List.getD, List.getElem?_append_left (by omega), ← List.getD]
      · rfl
/-- Neighbours that share so many bytes begin alike. -/
def Shr (ws : List (List Nat)) (sh : List Nat) (d : Nat) : Prop := ∀ i, 0 < i → i < ws.length → d ≤ sh.getD i 0 → (ws.getD i []).take d = (ws.getD (i - 1) []).take d
theorem gD_at (d : Nat) (hd : 0 < d) (ws : List (List Nat)) (sh : List Nat) (S : List (List Nat)) (h0 : sh.getD 0 0 = 0) (hs : Shr ws sh d) : ∀ i, i < ws.length → ∀ k, i < k → (gD d ws sh S k).getD (S.length + cnt sh d (i + 1) - 1) [] = (ws.getD i []).take d := by
  intro i
  induction i with
  | zero =>
    intro _ k hk
    have h1 : cnt sh d (0 + 1) = 1 := by simp only [cnt]; rw [h0, if_pos hd]
    rw [gD_old d ws sh S _ 1 (by rw [gD_len, h1]; omega) k (by omega), gD, g1, gD, h0, if_pos hd, h1]
    simp [List.getD]
  | succ i ih =>
    intro hi k hk
    have hp := cnt_pos sh d h0 hd i
    have hp2 := cnt_pos sh d h0 hd (i + 1)
    rw [gD_old d ws sh S _ (i + 1 + 1) (by rw [gD_len]; omega) k (by omega), gD, g1, cnt]
    by_cases h2 : sh.getD (i + 1) 0 < d
    · rw [if_pos h2, if_pos h2]
      have hl := gD_len d ws sh S (i + 1)
      rw [List.getD, List.getElem?_append_right (by omega), show S.length + (cnt sh d (i + 1) + 1) - 1 - (gD d ws sh S (i + 1)).length = 0 by omega]
      rfl
    · rw [if_neg h2, if_neg h2, show S.length + (cnt sh d (i + 1) + 0) - 1 = S.length + cnt sh d (i + 1) - 1 by omega, ih (by omega) (i + 1) (by omega)]
      exact (hs (i + 1) (by omega) hi (by omega)).symm
/-- Where a word's beginning of a length lies. -/
def idx (ws : List (List Nat)) (sh : List Nat) (d i : Nat) : Nat := if d = 0 then 0 else (gS ws sh (d - 1)).length + cnt sh d (i + 1) - 1
theorem gS_len (ws : List (List Nat)) (sh : List Nat) (d : Nat) : (gS ws sh (d + 1)).length = (gS ws sh d).length + cnt sh (d + 1) ws.length := by rw [gS, gD_len]
theorem gS_pos (ws : List (List Nat)) (sh : List Nat) : ∀ d, 0 < (gS ws sh d).length
  | 0 => by simp [gS]
  | d + 1 => by have := gS_pos ws sh d; rw [gS_len]; omega
theorem gS_mono (ws : List (List Nat)) (sh : List Nat) {d e : Nat} (h : d ≤ e) : (gS ws sh d).length ≤ (gS ws sh e).length := by
  induction e with
  | zero => have : d = 0 := by omega
            subst this; exact Nat.le_refl _
  | succ e ih =>
    by_cases h2 : d = e + 1
    · subst h2; exact Nat.le_refl _
    · have := ih (by omega); rw [gS_len]; omega
theorem gS_old (ws : List (List Nat)) (sh : List Nat) (j d : Nat) (hj : j < (gS ws sh d).length) : ∀ e, d ≤ e → (gS ws sh e).getD j [] = (gS ws sh d).getD j [] := by
  intro e he
  induction e with
  | zero => have : d = 0 := by omega
            subst this; rfl
  | succ e ih =>
    by_cases h2 : d = e + 1
    · subst h2; rfl
    · rw [← ih (by omega), gS]
      exact gD_old (e + 1) ws sh (gS ws sh e) j 0 (by rw [gD]; have := gS_mono ws sh (d := d) (e := e) (by omega); omega) _ (by omega)
theorem idx_lt (ws : List (List Nat)) (sh : List Nat) (d i : Nat) (hi : i < ws.length) : idx ws sh d i < (gS ws sh d).length := by
  unfold idx
  by_cases hd : d = 0
  · subst hd; rw [if_pos rfl]; exact gS_pos _ _ _
  · rw [if_neg hd]
    obtain ⟨e, rfl⟩ : ∃ e, d = e + 1 := ⟨d - 1, by omega⟩
    have h1 := cnt_mono sh (e + 1) (i := i + 1) (j := ws.length) (by omega)
    have h2 := gS_pos ws sh e
    rw [gS_len, Nat.add_sub_cancel]
    omega
/-- Each beginning of a word is a state. -/
theorem gS_at (ws : List (List Nat)) (sh : List Nat) (h0 : sh.getD 0 0 = 0) (hs : ∀ d, Shr ws sh d) (d e i : Nat) (hd : d ≤ e) (hi : i < ws.length) : (gS ws sh e).getD (idx ws sh d i) [] = (ws.getD i []).take d := by
  rw [gS_old ws sh _ d (idx_lt ws sh d i hi) e hd]
  unfold idx
  by_cases h : d = 0
  · subst h; rw [if_pos rfl, List.take_zero]; rfl
  · rw [if_neg h]
    obtain ⟨d', rfl⟩ : ∃ e, d = e + 1 := ⟨d - 1, by omega⟩
    rw [gS, Nat.add_sub_cancel]
    exact gD_at (d' + 1) (by omega) ws sh _ h0 (hs _) i hi ws.length hi
/-- Each state is one. -/
theorem gS_ex (ws : List (List Nat)) (sh : List Nat) : ∀ e t, t < (gS ws sh e).length → t = 0 ∨ ∃ d i, 0 < d ∧ d ≤ e ∧ i < ws.length ∧ sh.getD i 0 < d ∧ t = idx ws sh d i
  | 0, t, h => .inl (by simp [gS] at h; exact h)
  | e + 1, t, h => by
    by_cases h1 : t < (gS ws sh e).length
    · rcases gS_ex ws sh e t h1 with h2 | ⟨d, i, h2, h3, h4⟩
      · exact .inl h2
      · exact .inr ⟨d, i, h2, by omega, h4⟩
    · rw [gS_len] at h
      obtain ⟨i, h2, h3, h4⟩ := cnt_ex sh (e + 1) ws.length (t - (gS ws sh e).length) (by omega)
      refine .inr ⟨e + 1, i, by omega, Nat.le_refl _, h2, h3, ?_⟩
      unfold idx
      rw [if_neg (by omega), Nat.add_sub_cancel]
      omega
/-- The last byte. -/
def lst (x : List Nat) : Nat := x.getD (x.length - 1) 0
theorem lst_take (w : List Nat) (d : Nat) (h : 0 < d) (hl : d ≤ w.length) : lst (w.take d) = w.getD (d - 1) 0 := by
  unfold lst
  rw [List.length_take, Nat.min_eq_left hl, List.getD, List.getElem?_take, if_pos (by omega), ← List.getD]
theorem lD_gD (d : Nat) (hd : 0 < d) (ws : List (List Nat)) (hw : ∀ i, i < ws.length → d ≤ (ws.getD i []).length) (sh : List Nat) (s : T3) (S : List (List Nat)) (h1 : s.1 = S.map lst) (h2 : s.2.1 = S.map List.length) : ∀ i, i ≤ ws.length → (lD d ws sh s i).1 = (gD d ws sh S i).map lst ∧ (lD d ws sh s i).2.1 = (gD d ws sh S i).map List.length
  | 0, _ => ⟨h1, h2⟩
  | i + 1, hi => by
    have ih := lD_gD d hd ws hw sh s S h1 h2 i (by omega)
    have hl := hw i (by omega)
    rw [lD, l1, gD, g1]
    split
    · simp only [List.map_append, List.map_cons, List.map_nil]
      rw [ih.1, ih.2, lst_take _ _ hd hl, List.length_take, Nat.min_eq_left hl]
      exact ⟨rfl, rfl⟩
    · exact ih
theorem lS_gS (ws : List (List Nat)) (sh : List Nat) (m : Nat) (hw : ∀ i, i < ws.length → (ws.getD i []).length = m) : ∀ d, d ≤ m → (lS ws sh d).1 = (gS ws sh d).map lst ∧ (lS ws sh d).2.1 = (gS ws sh d).map List.length
  | 0, _ => ⟨rfl, rfl⟩
  | d + 1, hd => by
    have ih := lS_gS ws sh m hw d (by omega)
    exact lD_gD (d + 1) (by omega) ws (fun i hi => by rw [hw i hi]; exact hd) sh _ _ ih.1 ih.2 _ (Nat.le_refl _)
theorem lS_gl (ws : List (List Nat)) (sh : List Nat) (m : Nat) (hw : ∀ i, i < ws.length → (ws.getD i []).length = m) (d : Nat) (hd : d ≤ m) : (lS ws sh d).1.length = (gS ws sh d).length := by rw [(lS_gS ws sh m hw d hd).1, List.length_map]
/-- How many firsts. -/
theorem lD_fl (d : Nat) (ws : List (List Nat)) (sh : List Nat) (s : T3) : ∀ i, (lD d ws sh s i).2.2.length = s.2.2.length + cnt sh (d - 1) i
  | 0 => rfl
  | i + 1 => by
    have ih := lD_fl d ws sh s i
    rw [lD, l1, cnt]
    by_cases h : sh.getD i 0 < d
    · rw [if_pos h]
      simp only
      by_cases h2 : sh.getD i 0 < d - 1
      · rw [if_pos h2, if_pos h2, List.length_append, List.length_singleton]; omega
      · rw [if_neg h2, if_neg h2]; omega
    · rw [if_neg h, if_neg (by omega)]; omega
theorem cnt0 (sh : List Nat) : ∀ i, cnt sh 0 i = 0
  | 0 => rfl
  | i + 1 => by rw [cnt, cnt0 sh i, if_neg (by omega)]
theorem lS_fl (ws : List (List Nat)) (sh : List Nat) : ∀ d, (lS ws sh (d + 1)).2.2.length = (gS ws sh d).length
  | 0 => by
    rw [lS, lD_fl, Nat.add_sub_cancel, cnt0]
    rfl
  | d + 1 => by
    rw [lS, lD_fl, lS_fl ws sh d, Nat.add_sub_cancel, gS_len]
end Go.Proofs.Ytceaklefdahfkab

/- The sieve's automaton: which states follow upon which. -/
namespace Go.Proofs.Ytceaklefdahfkab
open Go.RowKit
/-- Each state but the first has its own beginning ahead of it. -/
def PF (S : List (List Nat)) (F : List Nat) : Prop := ∀ t, 0 < t → t < S.length → ∃ p, p < F.length ∧ F.getD p 0 ≤ t ∧ (∀ q, p < q → q < F.length → t < F.getD q 0) ∧ S.getD t [] = S.getD p [] ++ [lst (S.getD t [])]
theorem getS_snoc (S : List (List Nat)) (x : List Nat) (j : Nat) (h : j < S.length) : (S ++ [x]).getD j [] = S.getD j [] := by rw [List.getD, List.getElem?_append_left h, ← List.getD]
theorem getS_last (S : List (List Nat)) (x : List Nat) : (S ++ [x]).getD S.length [] = x := by simp [List.getD]
theorem take_lst (w : List Nat) (d : Nat) (h : d < w.length) : w.take (d + 1) = w.take d ++ [lst (w.take (d + 1))] := by
  rw [lst_take w (d + 1) (by omega) (by omega), Nat.add_sub_cancel, take_snoc h]
theorem PF.addF {S : List (List Nat)} {F : List Nat} (h : PF S F) : PF S (F ++ [S.length]) := fun t h1 h2 => by
  obtain ⟨p, h3, h4, h5, h6⟩ := h t h1 h2
  refine ⟨p, by simp; omega, ?_, fun q hq hq2 => ?_, h6⟩
  · rw [getD_snoc, if_pos h3]; exact h4
  · rw [getD_snoc]
    by_cases h7 : q < F.length
    · rw [if_pos h7]; exact h5 q hq h7
    · rw [if_neg h7, if_pos (by simp at hq2; omega)]; exact h2
theorem PF.addS {S : List (List Nat)} {F : List Nat} (h : PF S F) (hn : 0 < F.length) (hF : ∀ j, j < F.length → F.getD j 0 ≤ S.length) (x : List Nat) (hfl : F.length ≤ S.length) (hx : x = S.getD (F.length - 1) [] ++ [lst x]) : PF (S ++ [x]) F := fun t h1 h2 => by
  by_cases h3 : t < S.length
  · obtain ⟨p, h4, h5, h6, h7⟩ := h t h1 h3
    exact ⟨p, h4, h5, h6, by rw [getS_snoc _ _ _ h3, getS_snoc _ _ _ (by omega)]; exact h7⟩
  · have : t = S.length := by simp at h2; omega
    subst this
    exact ⟨F.length - 1, by omega, hF _ (by omega), fun q h4 h5 => by omega, by rw [getS_last, getS_snoc _ _ _ (by omega)]; exact hx⟩
/-- One length more. -/
theorem lD_pf (d : Nat) (ws : List (List Nat)) (sh : List Nat) (h0 : sh.getD 0 0 = 0) (hs : ∀ d, Shr ws sh d) (hw : ∀ i, i < ws.length → d < (ws.getD i []).length) (s : T3) (hl : s.1.length = (gS ws sh d).length) (hiv : Iv s.1 s.2.2) (h2 : d = 0 ∨ s.2.2.length < s.1.length)
    (hfl : s.2.2.length = if d = 0 then 1 else (gS ws sh (d - 1)).length) (h : PF (gS ws sh d) s.2.2) : ∀ i, i ≤ ws.length → PF (gD (d + 1) ws sh (gS ws sh d) i) (lD (d + 1) ws sh s i).2.2 ∧ (lD (d + 1) ws sh s i).1.length = (gD (d + 1) ws sh (gS ws sh d) i).length
  | 0, _ => ⟨h, hl⟩
  | i + 1, hi => by
    obtain ⟨ih, il⟩ := lD_pf d ws sh h0 hs hw s hl hiv h2 hfl h i (by omega)
    obtain ⟨v1, v2⟩ := lD_iv (d + 1) ws sh s hiv (by rcases h2 with h2 | h2; exact .inl (by omega); exact .inr h2) i
    have fl := lD_fl (d + 1) ws sh s i
    rw [Nat.add_sub_cancel] at fl
    have gl := gD_len (d + 1) ws sh (gS ws sh d) i
    have hwi := hw i (by omega)
    rw [lD, l1, gD, g1]
    obtain ⟨A, D, F, e⟩ : ∃ A D F, lD (d + 1) ws sh s i = (A, D, F) := ⟨_, _, _, rfl⟩
    rw [e] at ih il v1 v2 fl ⊢
    simp only at ih il v1 v2 fl ⊢
    by_cases h3 : sh.getD i 0 < d + 1
    · rw [if_pos h3, if_pos h3]
      simp only [Nat.add_sub_cancel]
      refine ⟨?_, by simp [il]⟩
      by_cases h4 : sh.getD i 0 < d
      · rw [if_pos h4, il]
        have hd : d ≠ 0 := by omega
        rw [if_neg hd] at hfl
        have v3 : F.length < A.length := by rcases v2 with v2 | v2 <;> omega
        have vF := v1.addF v3
        rw [il] at vF v3
        have hidx : idx ws sh d i = F.length := by
          unfold idx; rw [if_neg hd, cnt, if_pos h4]; omega
        refine (ih.addF).addS (by simp) (fun j hj => by have := vF.last j hj; omega) _ (by simp; omega) ?_
        rw [List.length_append, List.length_singleton, Nat.add_sub_cancel]
        have hat := gS_at ws sh h0 hs d d i (Nat.le_refl _) (by omega)
        rw [hidx] at hat
        have hlt := idx_lt ws sh d i (by omega)
        rw [hidx] at hlt
        rw [gD_old (d + 1) ws sh (gS ws sh d) F.length 0 (by rw [gD]; exact hlt) i (by omega), gD, hat]
        exact take_lst _ d hwi
      · rw [if_neg h4]
        have vl : F.length ≤ A.length := by
          rcases v2 with v2 | v2
          · have : d = 0 := by omega
            subst this
            rw [cnt0, Nat.add_zero, hfl, if_pos rfl] at fl
            have := v1.ap
            omega
          · omega
        have hidx : idx ws sh d i = F.length - 1 := by
          unfold idx
          by_cases hd : d = 0
          · subst hd
            rw [if_pos rfl] at hfl ⊢
            rw [cnt0] at fl
            omega
          · rw [if_neg hd] at hfl ⊢
            rw [cnt, if_neg h4]; omega
        refine ih.addS v1.ne (fun j hj => by rw [← il]; exact v1.last j hj) _ (by omega) ?_
        have hat := gS_at ws sh h0 hs d d i (Nat.le_refl _) (by omega)
        rw [hidx] at hat
        have hlt := idx_lt ws sh d i (by omega)
        rw [hidx] at hlt
        rw [gD_old (d + 1) ws sh (gS ws sh d) (F.length - 1) 0 (by rw [gD]; exact hlt) i (by omega), gD, hat]
        exact take_lst _ d hwi
    · rw [if_neg h3, if_neg h3]
      exact ⟨ih, il⟩
theorem lS_pf (ws : List (List Nat)) (sh : List Nat) (h0 : sh.getD 0 0 = 0) (hs : ∀ d, Shr ws sh d) (m : Nat) (hw : ∀ i, i < ws.length → (ws.getD i []).length = m) (hne : ws ≠ []) : ∀ d, d ≤ m → PF (gS ws sh d) (lS ws sh d).2.2
  | 0, _ => fun t h1 h2 => by simp [gS] at h2; omega
  | d + 1, hd => by
    have ih := lS_pf ws sh h0 hs m hw hne d (by omega)
    have hiv := lS_iv ws sh h0 d
    refine (lD_pf d ws sh h0 hs (fun i hi => by rw [hw i hi]; omega) (lS ws sh d) (lS_gl ws sh m hw d (by omega)) hiv.1 ?_ ?_ ih ws.length (Nat.le_refl _)).1
    · rcases hiv.2 with h | h | h
      · exact .inl h
      · exact absurd h hne
      · exact .inr h
    · cases d with
      | zero => rfl
      | succ d => rw [if_neg (by omega), Nat.add_sub_cancel]; exact lS_fl ws sh d
/-- Words in order. -/
def Asc (ws : List (List Nat)) : Prop := ∀ i j, i < j → j < ws.length → ws.getD i [] ≤ ws.getD j []
theorem take_mono : ∀ (a b : List Nat) (e : Nat), a ≤ b → a.take e ≤ b.take e
  | _, _, 0, _ => by simp
  | [], _, e + 1, _ => by simp
  | x :: a, [], e + 1, h => by
    exact absurd h (by simp)
  | x :: a, y :: b, e + 1, h => by
    rw [List.take_succ_cons, List.take_succ_cons, List.cons_le_cons_iff]
    rw [List.cons_le_cons_iff] at h
    rcases h with h | ⟨h1, h2⟩
    · exact .inl h
    · exact .inr ⟨h1, take_mono a b e h2⟩
theorem cpf_take : ∀ (a b : List Nat) (e : Nat), e ≤ a.length → e ≤ b.length → a.take e = b.take e → e ≤ cpf a b
  | _, _, 0, _, _, _ => Nat.zero_le _
  | [], _, e + 1, h, _, _ => by simp at h
  | _ :: _, [], e + 1, _, h, _ => by simp at h
  | x :: a, y :: b, e + 1, h1, h2, h3 => by
    simp only [List.take_succ_cons, List.cons.injEq] at h3
    unfold cpf
    rw [if_pos h3.1]
    have := cpf_take a b e (by simpa using h1) (by simpa using h2) h3.2
    omega
theorem take_cpf : ∀ (a b : List Nat) (e : Nat), e ≤ cpf a b → a.take e = b.take e
  | _, _, 0, _ => by simp
  | [], _, e + 1, h => by simp [cpf] at h
  | _ :: _, [], e + 1, h => by simp [cpf] at h
  | x :: a, y :: b, e + 1, h => by
    unfold cpf at h
    by_cases h1 : x = y
    · rw [if_pos h1] at h
      rw [List.take_succ_cons, List.take_succ_cons, h1, take_cpf a b e (by omega)]
    · rw [if_neg h1] at h; omega
theorem shr_Shr (ws : List (List Nat)) (d : Nat) : Shr ws (shr ws) d := fun i h1 h2 h3 => by
  rw [shr_get ws i h2, if_neg (by omega)] at h3
  exact take_cpf _ _ _ h3
theorem cnt_same (sh : List Nat) (e i : Nat) : ∀ j, i ≤ j → (∀ k, i < k → k ≤ j → e ≤ sh.getD k 0) → cnt sh e (j + 1) = cnt sh e (i + 1) := by
  intro j
  induction j with
  | zero => intro h _; have : i = 0 := by omega
            subst this; rfl
  | succ j ih =>
    intro h h2
    by_cases h3 : i = j + 1
    · subst h3; rfl
    · rw [cnt, ih (by omega) (fun k h4 h5 => h2 k h4 (by omega)), if_neg (by have := h2 (j + 1) (by omega) (by omega); omega)]
      rfl
/-- One beginning, one state. -/
theorem idx_same (ws : List (List Nat)) (ha : Asc ws) (m : Nat) (hw : ∀ i, i < ws.length → (ws.getD i []).length = m) (e : Nat) (he : e ≤ m) (i j : Nat) (hij : i ≤ j) (hj : j < ws.length) (h : (ws.getD i []).take e = (ws.getD j []).take e) : idx ws (shr ws) e i = idx ws (shr ws) e j := by
  unfold idx
  by_cases h0 : e = 0
  · rw [if_pos h0, if_pos h0]
  · rw [if_neg h0, if_neg h0]
    have mid : ∀ k, i ≤ k → k ≤ j → (ws.getD k []).take e = (ws.getD i []).take e := fun k h1 h2 => by
      by_cases h3 : k = i
      · rw [h3]
      · by_cases h4 : k = j
        · rw [h4, h]
        · have q1 := take_mono _ _ e (ha i k (by omega) (by omega))
          have q2 := take_mono _ _ e (ha k j (by omega) (by omega))
          rw [← h] at q2
          exact List.le_antisymm q2 q1
    rw [cnt_same (shr ws) e i j hij fun k h1 h2 => ?_]
    rw [shr_get ws k (by omega), if_neg (by omega)]
    refine cpf_take _ _ _ (by rw [hw k (by omega)]; exact he) (by rw [hw (k - 1) (by omega)]; exact he) ?_
    rw [mid k (by omega) h2, mid (k - 1) (by omega) (by omega)]
end Go.Proofs.Ytceaklefdahfkab

/- The sieve's automaton: the rows and the backs are right. -/
namespace Go.Proofs.Ytceaklefdahfkab
open Go.RowKit
/-- The longest ending of which something holds. -/
def lsf (P : List Nat → Bool) : List Nat → List Nat
  | [] => []
  | x :: l => if P (x :: l) then x :: l else lsf P l
/-- The longest shorter ending. -/
def bkf (P : List Nat → Bool) : List Nat → List Nat
  | [] => []
  | _ :: l => lsf P l
theorem lsf_app (P : List Nat → Bool) (hp : ∀ x c, P (x ++ [c]) = true → P x = true) (c : Nat) : ∀ x, lsf P (x ++ [c]) = lsf P (lsf P x ++ [c])
  | [] => rfl
  | a :: x => by
    by_cases h : P (a :: x) = true
    · rw [lsf, if_pos h]
    · have h' : ¬ P (a :: (x ++ [c])) = true := fun h2 => h (hp (a :: x) c h2)
      rw [lsf, if_neg h, List.cons_append, lsf, if_neg h']
      exact lsf_app P hp c x
theorem lsf_step (P : List Nat → Bool) (hp : ∀ x c, P (x ++ [c]) = true → P x = true) (c : Nat) (x : List Nat) (h : ¬ P (x ++ [c]) = true) : lsf P (x ++ [c]) = if x = [] then [] else lsf P (bkf P x ++ [c]) := by
  cases x with
  | nil =>
    rw [if_pos rfl]
    show (if P ([] ++ [c]) = true then _ else _) = _
    rw [if_neg h]; rfl
  | cons a x =>
    have h' : ¬ P (a :: (x ++ [c])) = true := h
    rw [if_neg (by simp), List.cons_append, lsf, if_neg h', bkf]
    exact lsf_app P hp c x
theorem bkf_app (P : List Nat → Bool) (hp : ∀ x c, P (x ++ [c]) = true → P x = true) (c : Nat) (x : List Nat) (h : x ≠ []) : bkf P (x ++ [c]) = lsf P (bkf P x ++ [c]) := by
  cases x with
  | nil => exact absurd rfl h
  | cons a x =>
    rw [List.cons_append, bkf, bkf]
    exact lsf_app P hp c x
/-- The states' texts, and how the table tells them. -/
structure Au (S : List (List Nat)) (t : Tbl) : Prop where
  s0 : S.getD 0 [] = []
  ll : t.letters.length = S.length
  ne : ∀ u, 0 < u → u < S.length → S.getD u [] ≠ []
  f0 : t.firsts.getD 0 0 = 1
  fe : t.firsts.getD (t.firsts.length - 1) 0 = S.length
  ch : ∀ s u, s + 1 < t.firsts.length → t.firsts.getD s 0 ≤ u → u < t.firsts.getD (s + 1) 0 → S.getD u [] = S.getD s [] ++ [t.letters.getD u 0]
  cv : ∀ s c, s + 1 < t.firsts.length → S.getD s [] ++ [c] ∈ S → ∃ u, t.firsts.getD s 0 ≤ u ∧ u < t.firsts.getD (s + 1) 0 ∧ t.letters.getD u 0 = c
  pc : ∀ x c, x ++ [c] ∈ S → x ∈ S
def inS (S : List (List Nat)) (x : List Nat) : Bool := decide (x ∈ S)
theorem Au.hp {S : List (List Nat)} {t : Tbl} (h : Au S t) : ∀ x c, inS S (x ++ [c]) = true → inS S x = true := fun x c h2 => by
  unfold inS at h2 ⊢
  rw [decide_eq_true_iff] at h2 ⊢
  exact h.pc x c h2
/-- A state's number. -/
def Isx (S : List (List Nat)) (v : Nat) (x : List Nat) : Prop := v < S.length ∧ S.getD v [] = x
theorem Isx.mem {S : List (List Nat)} {v : Nat} {x : List Nat} (h : Isx S v x) : inS S x = true := by
  unfold inS
  rw [decide_eq_true_iff, ← h.2]
  have h1 := h.1
  have : S.getD v [] = S[v] := by simp [List.getD, h1]
  rw [this]; exact List.getElem_mem _
theorem lsf_mem {P : List Nat → Bool} {x : List Nat} (h : P x = true) : lsf P x = x := by
  cases x with
  | nil => rfl
  | cons a x => rw [lsf, if_pos h]
theorem getD_mem {l : List Nat} {j : Nat} (h : j < l.length) : l.getD j 0 ∈ l := by
  have e : l.getD j 0 = l[j] := by simp [List.getD, h]
  rw [e]; exact List.getElem_mem _
def RR (S : List (List Nat)) (t : Tbl) : Prop := ∀ u c, u < t.rows.length → c < 256 → Isx S ((t.rows.getD u []).getD c 0) (lsf (inS S) (S.getD u [] ++ [c]))
def RB (S : List (List Nat)) (t : Tbl) (B : Nat) : Prop := ∀ u, u < B → Isx S (t.backs.getD u 0) (bkf (inS S) (S.getD u []))
theorem nx_right {S : List (List Nat)} {t : Tbl} (ha : Au S t) (hk : Bk t) (hr : RR S t) (B : Nat) (hb : RB S t B) (h0 : 0 < t.rows.length) (c : Nat) (hc : c < 256) : ∀ f s, s < f → s < B → s + 1 < t.firsts.length → Isx S (nx t c f s) (lsf (inS S) (S.getD s [] ++ [c]))
  | 0, _, h, _, _ => by omega
  | f + 1, s, h1, h2, h3 => by
    rw [nx]
    by_cases h4 : s < t.rows.length
    · rw [if_pos h4]; exact hr s c h4 hc
    · rw [if_neg h4]
      have hnw := hk.nw (s := s) (by omega) h3
      have hsl := seg_len hnw
      have hll := hnw.ll
      have hle := hnw.le
      by_cases h5 : (seg t s).idxOf c < (seg t s).length
      · rw [if_pos h5]
        have hg : (seg t s).getD ((seg t s).idxOf c) 0 = c := by
          simp [List.getD, h5]
        rw [seg_get _ (by omega)] at hg
        have hx := ha.ch s (t.firsts.getD s 0 + (seg t s).idxOf c) h3 (by omega) (by omega)
        rw [hg] at hx
        have hI : Isx S (t.firsts.getD s 0 + (seg t s).idxOf c) (S.getD s [] ++ [c]) := ⟨by rw [← ha.ll]; omega, hx⟩
        rw [lsf_mem hI.mem]; exact hI
      · rw [if_neg h5]
        have hno : ¬ inS S (S.getD s [] ++ [c]) = true := fun h6 => by
          unfold inS at h6
          rw [decide_eq_true_iff] at h6
          obtain ⟨u, q1, q2, q3⟩ := ha.cv s c h3 h6
          apply h5
          apply List.idxOf_lt_length_of_mem
          have : (seg t s).getD (u - t.firsts.getD s 0) 0 = c := by rw [seg_get _ (by omega), show t.firsts.getD s 0 + (u - t.firsts.getD s 0) = u by omega, q3]
          have hl : u - t.firsts.getD s 0 < (seg t s).length := by omega
          rw [← this]
          exact getD_mem hl
        have hsS : s < S.length := by
          have := hk.low s h3
          have := hk.last s (by omega)
          rw [← ha.ll]; omega
        rw [lsf_step _ ha.hp c _ hno, if_neg (ha.ne s (by omega) hsS)]
        have hbs := hnw.bs
        have ih := nx_right ha hk hr B hb h0 c hc f (t.backs.getD s 0) (by omega) (by omega) (by omega)
        rw [(hb s h2).2] at ih
        exact ih
theorem rwl_at (t : Tbl) (f : Nat) (r : List Nat) (hr : r.length = 256) (c : Nat) (hc : c < 256) : ∀ k, (∃ u, f ≤ u ∧ u < f + k ∧ t.letters.getD u 0 = c ∧ (rwl t f r k).getD c 0 = u) ∨ ((∀ u, f ≤ u → u < f + k → t.letters.getD u 0 ≠ c) ∧ (rwl t f r k).getD c 0 = r.getD c 0)
  | 0 => .inr ⟨fun u h1 h2 => by omega, rfl⟩
  | k + 1 => by
    rw [rwl]
    have hl := rwl_len t f r k
    by_cases h : t.letters.getD (f + k) 0 = c
    · refine .inl ⟨f + k, by omega, by omega, h, ?_⟩
      rw [h]
      simp [List.getD, hl, hr, hc]
    · have hs : ((rwl t f r k).set (t.letters.getD (f + k) 0) (f + k)).getD c 0 = (rwl t f r k).getD c 0 := by
        rw [List.getD, List.getElem?_set_ne h, ← List.getD]
      rw [hs]
      rcases rwl_at t f r hr c hc k with ⟨u, h1, h2, h3, h4⟩ | ⟨h1, h2⟩
      · exact .inl ⟨u, h1, by omega, h3, h4⟩
      · refine .inr ⟨fun u h3 h4 => ?_, h2⟩
        by_cases h5 : u = f + k
        · subst h5; exact h
        · exact h1 u h3 (by omega)
theorem rwO_right {S : List (List Nat)} {t : Tbl} (ha : Au S t) (hk : Bk t) (hr : RR S t) (s : Nat) (hs : s + 1 < t.firsts.length) (he : t.rows.length = s) (hb : 0 < s → Isx S (t.backs.getD s 0) (bkf (inS S) (S.getD s []))) (c : Nat) (hc : c < 256) : Isx S ((rwO t s).getD c 0) (lsf (inS S) (S.getD s [] ++ [c])) := by
  have hlow := hk.low s hs
  have hlast := hk.last s (by omega)
  have hlast2 := hk.last (s + 1) hs
  have hmono := hk.mono s (s + 1) (by omega) hs
  have hll := ha.ll
  unfold rwO
  have hr0 : (rw0 t s).length = 256 := hk.rw0_len fun h0 => by rw [he]; exact hk.bs s h0
  rcases rwl_at t (t.firsts.getD s 0) (rw0 t s) hr0 c hc (t.firsts.getD (s + 1) 0 - t.firsts.getD s 0) with ⟨u, h1, h2, h3, h4⟩ | ⟨h1, h2⟩
  · rw [h4]
    have hx := ha.ch s u hs h1 (by omega)
    rw [h3] at hx
    have hI : Isx S u (S.getD s [] ++ [c]) := ⟨by omega, hx⟩
    rw [lsf_mem hI.mem]; exact hI
  · rw [h2]
    have hno : ¬ inS S (S.getD s [] ++ [c]) = true := fun h6 => by
      unfold inS at h6
      rw [decide_eq_true_iff] at h6
      obtain ⟨u, q1, q2, q3⟩ := ha.cv s c hs h6
      exact h1 u q1 (by omega) q3
    rw [lsf_step _ ha.hp c _ hno]
    unfold rw0
    by_cases h0 : 0 < s
    · rw [if_pos h0, if_neg (ha.ne s h0 (by omega))]
      have := hr (t.backs.getD s 0) c (by rw [he]; exact hk.bs s h0) hc
      rw [(hb h0).2] at this
      exact this
    · have : s = 0 := by omega
      subst this
      rw [if_neg h0, ha.s0, if_pos rfl]
      have e : (List.replicate 256 0).getD c 0 = 0 := by
        simp only [List.getD, List.getElem?_replicate]
        split <;> rfl
      rw [e]
      exact ⟨by omega, ha.s0⟩
theorem Au.same {S : List (List Nat)} {t t' : Tbl} (h : Au S t) (h1 : t'.firsts = t.firsts) (h2 : t'.letters = t.letters) : Au S t' := by
  refine ⟨h.s0, by rw [h2]; exact h.ll, h.ne, by rw [h1]; exact h.f0, by rw [h1]; exact h.fe, by rw [h1, h2]; exact h.ch, by rw [h1, h2]; exact h.cv, h.pc⟩
theorem lbR_right {S : List (List Nat)} {t : Tbl} (ha : Au S t) (hk : Bk t) (hr : RR S t) (s : Nat) (hs : s + 1 < t.firsts.length) (he : t.rows.length = min s 64) (hb : 0 < s → Isx S (t.backs.getD s 0) (bkf (inS S) (S.getD s []))) : RR S (lbR t s) := by
  unfold lbR
  by_cases h : t.rows.length < 64
  · rw [if_pos h]
    intro u c hu hc
    simp only [List.length_append, List.length_singleton] at hu
    show Isx S (((t.rows ++ [rwO t s]).getD u []).getD c 0) _
    by_cases h2 : u < t.rows.length
    · have : (t.rows ++ [rwO t s]).getD u [] = t.rows.getD u [] := by simp [List.getD, List.getElem?_append_left h2]
      rw [this]; exact hr u c h2 hc
    · have e : u = t.rows.length := by omega
      have e2 : u = s := by omega
      have : (t.rows ++ [rwO t s]).getD u [] = rwO t s := by rw [e]; simp [List.getD]
      rw [this, e2]
      exact rwO_right ha hk hr s hs (by omega) hb c hc
  · rw [if_neg h]; exact hr
theorem lbF_right {S : List (List Nat)} {t : Tbl} (ha : Au S t) (hk : Bk t) (hlb : Byt t.letters) (hr : RR S t) (h0 : 0 < t.rows.length) (s : Nat) (hs0 : 0 < s) (hs : s + 1 < t.firsts.length) (hb : RB S t (t.firsts.getD s 0)) : ∀ k, t.firsts.getD s 0 + k ≤ t.firsts.getD (s + 1) 0 → RB S (lbF t s k) (t.firsts.getD s 0 + k)
  | 0, _ => hb
  | k + 1, hkk => by
    have ih := lbF_right ha hk hlb hr h0 s hs0 hs hb k (by omega)
    obtain ⟨e1, e2, e3, _⟩ := lbF_same t s k
    have hkF := hk.lbF h0 hs0 hs k (by omega)
    have hlow := hk.low s hs
    have hlast2 := hk.last (s + 1) hs
    have hll := ha.ll
    have haF : Au S (lbF t s k) := ha.same e1 e2
    have hrF : RR S (lbF t s k) := by unfold RR; rw [e3]; exact hr
    have hbs := hkF.bs s hs0
    have hc := getD_byt hlb (t.firsts.getD s 0 + k)
    have hn := nx_right haF hkF hrF (t.firsts.getD s 0 + k) ih (by rw [e3]; exact h0) (t.letters.getD (t.firsts.getD s 0 + k) 0) hc ((lbF t s k).backs.getD s 0 + 1) ((lbF t s k).backs.getD s 0) (by omega) (by omega) (by rw [e1]; omega)
    rw [(ih s (by omega)).2] at hn
    intro u hu
    rw [lbF]
    show Isx S ((List.set _ _ _).getD u 0) _
    by_cases h : t.firsts.getD s 0 + k = u
    · subst h
      have hbl : (lbF t s k).backs.length = S.length := by rw [hkF.bl, e2]; exact hll
      have e : ((lbF t s k).backs.set (t.firsts.getD s 0 + k) (nx (lbF t s k) (t.letters.getD (t.firsts.getD s 0 + k) 0) ((lbF t s k).backs.getD s 0 + 1) ((lbF t s k).backs.getD s 0))).getD (t.firsts.getD s 0 + k) 0 = nx (lbF t s k) (t.letters.getD (t.firsts.getD s 0 + k) 0) ((lbF t s k).backs.getD s 0 + 1) ((lbF t s k).backs.getD s 0) := by
        rw [List.getD, List.getElem?_set_self (by omega)]; rfl
      rw [e, ha.ch s _ hs (by omega) (by omega), bkf_app _ ha.hp _ _ (ha.ne s hs0 (by omega))]
      exact hn
    · rw [List.getD, List.getElem?_set_ne h, ← List.getD]
      exact ih u (by omega)
theorem lbS_right {S : List (List Nat)} {t : Tbl} (ha : Au S t) (hk : Bk t) (hd : Bd t) (hlb : Byt t.letters) (hr : t.rows = []) (hbk : t.backs = List.replicate t.letters.length 0) : ∀ s, s + 1 ≤ t.firsts.length → RR S (lbS t s) ∧ RB S (lbS t s) (t.firsts.getD s 0)
  | 0, _ => by
    refine ⟨fun u c hu => ?_, fun u hu => ?_⟩
    · have : (lbS t 0).rows = [] := hr
      rw [this] at hu; simp at hu
    · rw [ha.f0] at hu
      have : u = 0 := by omega
      subst this
      have e : (lbS t 0).backs.getD 0 0 = 0 := by
        show t.backs.getD 0 0 = 0
        rw [hbk]
        simp only [List.getD, List.getElem?_replicate]
        split <;> rfl
      rw [e, ha.s0]
      refine ⟨?_, ha.s0⟩
      by_cases h : 0 < S.length
      · exact h
      · have hl := hk.pos 0 (by omega)
        have hl2 := hk.last 0 (by omega)
        have := ha.ll
        omega
  | s + 1, hs => by
    obtain ⟨h1, h2⟩ := lbS_right ha hk hd hlb hr hbk s (by omega)
    obtain ⟨k1, d1, r1⟩ := lbS_ok t hk hd hr s (by omega)
    obtain ⟨e1, e2, _⟩ := lbS_same t s
    have haS : Au S (lbS t s) := ha.same e1 e2
    have hlow := hk.low s (by omega)
    have hRR := lbR_right haS k1 h1 s (by rw [e1]; omega) r1 fun h0 => h2 s hlow
    have hB1 : RB S (lbR (lbS t s) s) (t.firsts.getD s 0) := by unfold RB; rw [(lbR_same (lbS t s) s).2.2.2.2.2]; exact h2
    obtain ⟨f1, f2, _⟩ := lbR_same (lbS t s) s
    have haR : Au S (lbR (lbS t s) s) := haS.same f1 f2
    have kR : Bk (lbR (lbS t s) s) := k1.lbR (by rw [e1]; omega) r1
    have rR := lbR_rows (lbS t s) s r1
    rw [lbS]
    by_cases h0 : s = 0
    · subst h0
      rw [if_pos rfl]
      refine ⟨hRR, fun u hu => ?_⟩
      by_cases hu0 : u = 0
      · subst hu0; exact hB1 0 (by rw [ha.f0]; omega)
      · have hb0 : (lbR (lbS t 0) 0).backs.getD u 0 = 0 := by
          rw [(lbR_same (lbS t 0) 0).2.2.2.2.2]
          show t.backs.getD u 0 = 0
          rw [hbk]
          simp only [List.getD, List.getElem?_replicate]
          split <;> rfl
        rw [hb0, ha.ch 0 u (by omega) (by rw [ha.f0]; omega) hu, ha.s0]
        exact ⟨(hB1 0 (by rw [ha.f0]; omega)).1 |> fun _ => by
          have hl := hk.pos 0 (by omega)
          have hl2 := hk.last 0 (by omega)
          have := ha.ll
          omega, ha.s0⟩
    · rw [if_neg h0]
      have hm := hk.mono s (s + 1) (by omega) (by omega)
      have eF : (lbR (lbS t s) s).firsts = t.firsts := f1.trans e1
      rw [eF]
      have hlR : Byt (lbR (lbS t s) s).letters := by rw [f2, e2]; exact hlb
      have hq := lbF_right haR kR hlR hRR (by rw [rR]; omega) s (by omega) (by rw [eF]; omega) (by rw [eF]; exact hB1) (t.firsts.getD (s + 1) 0 - t.firsts.getD s 0) (by rw [eF]; omega)
      rw [eF, show t.firsts.getD s 0 + (t.firsts.getD (s + 1) 0 - t.firsts.getD s 0) = t.firsts.getD (s + 1) 0 by omega] at hq
      refine ⟨?_, hq⟩
      unfold RR
      rw [(lbF_same (lbR (lbS t s) s) s _).2.2.1]
      exact hRR
end Go.Proofs.Ytceaklefdahfkab

/- The sieve's automaton: the table that is laid down tells the states' texts. -/
namespace Go.Proofs.Ytceaklefdahfkab
open Go.RowKit
/-- Words of one length, in order, none twice. -/
structure Wd (ws : List (List Nat)) (m : Nat) : Prop where
  m0 : 0 < m
  ne : ws ≠ []
  len : ∀ i, i < ws.length → (ws.getD i []).length = m
  asc : Asc ws
  tw : ∀ i, i + 1 < ws.length → ws.getD i [] ≠ ws.getD (i + 1) []
theorem getS_mem {S : List (List Nat)} {j : Nat} (h : j < S.length) : S.getD j [] ∈ S := by
  have e : S.getD j [] = S[j] := by simp [List.getD, h]
  rw [e]; exact List.getElem_mem _
theorem mem_getS {S : List (List Nat)} {x : List Nat} (h : x ∈ S) : ∃ j, j < S.length ∧ S.getD j [] = x := by
  obtain ⟨j, hj, rfl⟩ := List.mem_iff_getElem.1 h
  exact ⟨j, hj, by simp [List.getD, hj]⟩
theorem lst_app (x : List Nat) (c : Nat) : lst (x ++ [c]) = c := by simp [lst, List.getD]
theorem lD_f0 (d : Nat) (ws : List (List Nat)) (sh : List Nat) (s : T3) (h : s.2.2.getD 0 0 = 1) (hn : 0 < s.2.2.length) : ∀ i, (lD d ws sh s i).2.2.getD 0 0 = 1 ∧ 0 < (lD d ws sh s i).2.2.length
  | 0 => ⟨h, hn⟩
  | i + 1 => by
    have ih := lD_f0 d ws sh s h hn i
    rw [lD, l1]
    split
    · simp only
      split
      · rw [getD_snoc, if_pos ih.2]; exact ⟨ih.1, by simp⟩
      · exact ih
    · exact ih
theorem lS_f0 (ws : List (List Nat)) (sh : List Nat) : ∀ d, (lS ws sh d).2.2.getD 0 0 = 1 ∧ 0 < (lS ws sh d).2.2.length
  | 0 => ⟨rfl, by simp [lS]⟩
  | d + 1 => lD_f0 (d + 1) ws sh _ (lS_f0 ws sh d).1 (lS_f0 ws sh d).2 _
theorem Wd.gat {ws : List (List Nat)} {m : Nat} (_ : Wd ws m) (d i : Nat) (hd : d ≤ m) (hi : i < ws.length) : (gS ws (shr ws) m).getD (idx ws (shr ws) d i) [] = (ws.getD i []).take d := gS_at ws (shr ws) (shr_0 ws) (shr_Shr ws) d m i hd hi
theorem Wd.s0 {ws : List (List Nat)} {m : Nat} (_ : Wd ws m) : (gS ws (shr ws) m).getD 0 [] = [] := by rw [gS_old ws (shr ws) 0 0 (by simp [gS]) m (by omega)]; rfl
theorem Wd.sh_lt {ws : List (List Nat)} {m : Nat} (h : Wd ws m) (i : Nat) (hi : i < ws.length) : (shr ws).getD i 0 < m := by
  have h0 := h.m0
  rw [shr_get ws i hi]
  by_cases h1 : i = 0
  · rw [if_pos h1]; exact h0
  · rw [if_neg h1]
    rcases Nat.lt_or_ge (cpf (ws.getD i []) (ws.getD (i - 1) [])) m with h2 | h2
    · exact h2
    · have := take_cpf _ _ m h2
      rw [List.take_of_length_le (by rw [h.len i hi]; exact Nat.le_refl _), List.take_of_length_le (by rw [h.len (i - 1) (by omega)]; exact Nat.le_refl _)] at this
      have h3 := h.tw (i - 1) (by omega)
      rw [show i - 1 + 1 = i by omega] at h3
      exact absurd this.symm h3
theorem Wd.cnt_m {ws : List (List Nat)} {m : Nat} (h : Wd ws m) : ∀ i, i ≤ ws.length → cnt (shr ws) m i = i
  | 0, _ => rfl
  | i + 1, hi => by rw [cnt, Wd.cnt_m h i (by omega), if_pos (h.sh_lt i (by omega))]
/-- A state: the first, or a beginning. -/
theorem Wd.ex {ws : List (List Nat)} {m : Nat} (h : Wd ws m) (t : Nat) (ht : t < (gS ws (shr ws) m).length) : t = 0 ∨ ∃ d i, 0 < d ∧ d ≤ m ∧ i < ws.length ∧ t = idx ws (shr ws) d i ∧ (gS ws (shr ws) m).getD t [] = (ws.getD i []).take d ∧ ((gS ws (shr ws) m).getD t []).length = d := by
  rcases gS_ex ws (shr ws) m t ht with h1 | ⟨d, i, h1, h2, h3, _, h5⟩
  · exact .inl h1
  · refine .inr ⟨d, i, h1, h2, h3, h5, ?_, ?_⟩
    · rw [h5]; exact h.gat d i h2 h3
    · rw [h5, h.gat d i h2 h3, List.length_take, h.len i h3, Nat.min_eq_left h2]
theorem Wd.inj {ws : List (List Nat)} {m : Nat} (h : Wd ws m) (a b : Nat) (ha : a < (gS ws (shr ws) m).length) (hb : b < (gS ws (shr ws) m).length) (he : (gS ws (shr ws) m).getD a [] = (gS ws (shr ws) m).getD b []) : a = b := by
  rcases h.ex a ha with h1 | ⟨d, i, p1, p2, p3, p4, p5, p6⟩
  · rcases h.ex b hb with h2 | ⟨d', i', q1, q2, q3, q4, q5, q6⟩
    · rw [h1, h2]
    · rw [h1, h.s0] at he
      rw [← he] at q6
      simp at q6; omega
  · rcases h.ex b hb with h2 | ⟨d', i', q1, q2, q3, q4, q5, q6⟩
    · rw [h2, h.s0] at he
      rw [he] at p6
      simp at p6; omega
    · have hd : d = d' := by rw [← p6, ← q6, he]
      subst hd
      rw [p5, q5] at he
      rw [p4, q4]
      rcases Nat.le_total i i' with h3 | h3
      · exact idx_same ws h.asc m h.len d p2 i i' h3 q3 he
      · exact (idx_same ws h.asc m h.len d p2 i' i h3 p3 he.symm).symm
/-- How many states are no whole words. -/
theorem Wd.parts {ws : List (List Nat)} {m : Nat} (h : Wd ws m) (vs : List Nat) : (mkT ws vs m).firsts.length - 1 = (gS ws (shr ws) (m - 1)).length := by
  show ((lS ws (shr ws) m).2.2 ++ [_]).length - 1 = _
  rw [List.length_append, List.length_singleton, Nat.add_sub_cancel]
  obtain ⟨k, hk⟩ : ∃ k, m = k + 1 := ⟨m - 1, by have := h.m0; omega⟩
  rw [hk, Nat.add_sub_cancel]; exact lS_fl ws (shr ws) k
theorem Wd.all {ws : List (List Nat)} {m : Nat} (h : Wd ws m) : (gS ws (shr ws) m).length = (gS ws (shr ws) (m - 1)).length + ws.length := by
  obtain ⟨k, hk⟩ : ∃ k, m = k + 1 := ⟨m - 1, by have := h.m0; omega⟩
  have hc := h.cnt_m ws.length (Nat.le_refl _)
  rw [hk] at hc ⊢
  rw [Nat.add_sub_cancel, gS_len, hc]
theorem Wd.full {ws : List (List Nat)} {m : Nat} (h : Wd ws m) (i : Nat) (hi : i < ws.length) : (gS ws (shr ws) m).getD ((gS ws (shr ws) (m - 1)).length + i) [] = ws.getD i [] := by
  have := h.gat m i (Nat.le_refl _) hi
  rw [List.take_of_length_le (by rw [h.len i hi]; exact Nat.le_refl _)] at this
  rw [← this]
  unfold idx
  rw [if_neg (by have := h.m0; omega), h.cnt_m (i + 1) (by omega)]
  rfl
theorem Wd.short {ws : List (List Nat)} {m : Nat} (h : Wd ws m) (u : Nat) (hu : u < (gS ws (shr ws) (m - 1)).length) : ((gS ws (shr ws) m).getD u []).length < m := by
  have h0 := h.m0
  rcases gS_ex ws (shr ws) (m - 1) u hu with h1 | ⟨d, i, h1, h2, h3, _, h5⟩
  · rw [h1, h.s0]; simpa using h0
  · rw [h5, h.gat d i (by omega) h3, List.length_take, h.len i h3]; omega
theorem Wd.pf {ws : List (List Nat)} {m : Nat} (h : Wd ws m) : PF (gS ws (shr ws) m) (lS ws (shr ws) m).2.2 := lS_pf ws (shr ws) (shr_0 ws) (shr_Shr ws) m h.len h.ne m (Nat.le_refl _)
theorem Wd.au {ws : List (List Nat)} {m : Nat} (h : Wd ws m) (vs : List Nat) : Au (gS ws (shr ws) m) (mkT ws vs m) := by
  have hL := (lS_gS ws (shr ws) m h.len m (Nat.le_refl _)).1
  have hpf := h.pf
  have hiv := (lS_iv ws (shr ws) (shr_0 ws) m).1
  have hf0 := lS_f0 ws (shr ws) m
  have hgl := lS_gl ws (shr ws) m h.len m (Nat.le_refl _)
  have hp := h.parts vs
  have hal := h.all
  have hlet : ∀ u, u < (gS ws (shr ws) m).length → (mkT ws vs m).letters.getD u 0 = lst ((gS ws (shr ws) m).getD u []) := fun u hu => by
    show (lS ws (shr ws) m).1.getD u 0 = _
    rw [hL]
    simp [List.getD, hu]
  have hfi : (mkT ws vs m).firsts = (lS ws (shr ws) m).2.2 ++ [(gS ws (shr ws) m).length] := by rw [← hgl]; rfl
  rw [hfi, List.length_append, List.length_singleton, Nat.add_sub_cancel] at hp
  have hne : ∀ u, 0 < u → u < (gS ws (shr ws) m).length → (gS ws (shr ws) m).getD u [] ≠ [] := fun u h1 h2 h3 => by
    have := h.inj u 0 h2 (gS_pos _ _ _) (by rw [h3, h.s0])
    omega
  revert hp hpf hiv hf0 hfi
  generalize (lS ws (shr ws) m).2.2 = F
  intro hpf hiv hf0 hp hfi
  have hpar : ∀ u, 0 < u → u < (gS ws (shr ws) m).length → ∃ p, p < F.length ∧ F.getD p 0 ≤ u ∧ u < (F ++ [(gS ws (shr ws) m).length]).getD (p + 1) 0 ∧ (gS ws (shr ws) m).getD u [] = (gS ws (shr ws) m).getD p [] ++ [lst ((gS ws (shr ws) m).getD u [])] := fun u h1 h2 => by
    obtain ⟨p, q1, q2, q3, q4⟩ := hpf u h1 h2
    refine ⟨p, q1, q2, ?_, q4⟩
    rw [getD_snoc]
    by_cases h3 : p + 1 < F.length
    · rw [if_pos h3]; exact q3 (p + 1) (by omega) h3
    · rw [if_neg h3, if_pos (by omega)]; exact h2
  refine ⟨h.s0, ?_, hne, ?_, ?_, ?_, ?_, ?_⟩
  · show (lS ws (shr ws) m).1.length = _; exact hgl
  · rw [hfi, getD_snoc, if_pos hf0.2]; exact hf0.1
  · rw [hfi, List.length_append, List.length_singleton, Nat.add_sub_cancel, getD_snoc, if_neg (by omega), if_pos rfl]
  · rw [hfi]
    intro s u h1 h2 h3
    simp only [List.length_append, List.length_singleton] at h1
    have hs : s < F.length := by omega
    rw [getD_snoc, if_pos hs] at h2
    have hpos := hiv.pos s hs
    have hu : u < (gS ws (shr ws) m).length := by
      rw [getD_snoc] at h3
      by_cases h4 : s + 1 < F.length
      · rw [if_pos h4] at h3
        have := hiv.last (s + 1) h4
        rw [hgl] at this; omega
      · rw [if_neg h4, if_pos (by omega)] at h3; exact h3
    obtain ⟨p, q1, q2, q3, q4⟩ := hpf u (by omega) hu
    have hps : p = s := by
      rcases Nat.lt_trichotomy p s with h4 | h4 | h4
      · have := q3 s h4 hs; omega
      · exact h4
      · rw [getD_snoc, if_pos (by omega)] at h3
        have := hiv.mono (s + 1) p (by omega) q1
        omega
    rw [hlet u hu, ← hps]; exact q4
  · rw [hfi]
    intro s c h1 h2
    simp only [List.length_append, List.length_singleton] at h1
    have hs : s < F.length := by omega
    obtain ⟨u, hu, hu2⟩ := mem_getS h2
    have hu0 : 0 < u := by
      rcases Nat.eq_zero_or_pos u with h3 | h3
      · rw [h3, h.s0] at hu2; simp at hu2
      · exact h3
    obtain ⟨p, q1, q2, q3, q4⟩ := hpar u hu0 hu
    rw [hu2, lst_app] at q4
    have q5 := List.append_cancel_right q4
    have hps := h.inj s p (by omega) (by omega) q5
    subst hps
    exact ⟨u, by rw [getD_snoc, if_pos hs]; exact q2, q3, by rw [hlet u hu, hu2, lst_app]⟩
  · intro x c h2
    obtain ⟨u, hu, hu2⟩ := mem_getS h2
    have hu0 : 0 < u := by
      rcases Nat.eq_zero_or_pos u with h3 | h3
      · rw [h3, h.s0] at hu2; simp at hu2
      · exact h3
    obtain ⟨p, q1, _, _, q4⟩ := hpar u hu0 hu
    rw [hu2, lst_app] at q4
    rw [List.append_cancel_right q4]
    exact getS_mem (by omega)
end Go.Proofs.Ytceaklefdahfkab

/- The sieve's automaton: what it finds. -/
namespace Go.Proofs.Ytceaklefdahfkab
open Go.RowKit
theorem lsf_len (P : List Nat → Bool) : ∀ z, (lsf P z).length ≤ z.length
  | [] => Nat.le_refl _
  | a :: z => by
    rw [lsf]
    split
    · exact Nat.le_refl _
    · have := lsf_len P z; rw [List.length_cons]; omega
theorem lsf_suf (P : List Nat → Bool) : ∀ z, lsf P z = z.drop (z.length - (lsf P z).length)
  | [] => rfl
  | a :: z => by
    by_cases h : P (a :: z) = true
    · have e : lsf P (a :: z) = a :: z := by rw [lsf, if_pos h]
      rw [e, Nat.sub_self]; rfl
    · have e : lsf P (a :: z) = lsf P z := by rw [lsf, if_neg h]
      have hl := lsf_len P z
      rw [e, List.length_cons, show z.length + 1 - (lsf P z).length = (z.length - (lsf P z).length) + 1 by omega, List.drop_succ_cons]
      exact lsf_suf P z
theorem lsf_P (P : List Nat → Bool) : ∀ z, lsf P z = [] ∨ P (lsf P z) = true
  | [] => .inl rfl
  | a :: z => by
    by_cases h : P (a :: z) = true
    · have e : lsf P (a :: z) = a :: z := by rw [lsf, if_pos h]
      rw [e]; exact .inr h
    · have e : lsf P (a :: z) = lsf P z := by rw [lsf, if_neg h]
      rw [e]; exact lsf_P P z
theorem lsf_ge (P : List Nat → Bool) : ∀ z k, k ≤ z.length → P (z.drop (z.length - k)) = true → k ≤ (lsf P z).length
  | [], k, h, _ => h
  | a :: z, k, h, hp => by
    by_cases h1 : P (a :: z) = true
    · have e : lsf P (a :: z) = a :: z := by rw [lsf, if_pos h1]
      rw [e]; exact h
    · have e : lsf P (a :: z) = lsf P z := by rw [lsf, if_neg h1]
      rw [e]
      by_cases h2 : k = z.length + 1
      · subst h2
        rw [List.length_cons, Nat.sub_self] at hp
        exact absurd hp h1
      · rw [List.length_cons] at h
        refine lsf_ge P z k (by omega) ?_
        rw [List.length_cons, show z.length + 1 - k = (z.length - k) + 1 by omega, List.drop_succ_cons] at hp
        exact hp
/-- .. and which are shorter. -/
def shP (P : List Nat → Bool) (m : Nat) (x : List Nat) : Bool := P x && decide (x.length < m)
theorem lsf_sh (P : List Nat → Bool) (m : Nat) : ∀ z, (lsf P z).length < m → lsf (shP P m) z = lsf P z
  | [], _ => rfl
  | a :: z, h => by
    by_cases h1 : P (a :: z) = true
    · have e : lsf P (a :: z) = a :: z := by rw [lsf, if_pos h1]
      rw [e] at h ⊢
      rw [lsf, if_pos (by unfold shP; rw [h1, decide_eq_true h]; rfl)]
    · have e : lsf P (a :: z) = lsf P z := by rw [lsf, if_neg h1]
      rw [e] at h ⊢
      rw [lsf, if_neg (by unfold shP; rw [Bool.and_eq_true]; exact fun h2 => h1 h2.1)]
      exact lsf_sh P m z h
theorem lsf_bk (P : List Nat → Bool) (m : Nat) (hm : 0 < m) (hP : ∀ x, P x = true → x.length ≤ m) : ∀ z, m ≤ (lsf P z).length → lsf (shP P m) z = bkf P (lsf P z)
  | [], h => by simp [lsf] at h; omega
  | a :: z, h => by
    by_cases h1 : P (a :: z) = true
    · have e : lsf P (a :: z) = a :: z := by rw [lsf, if_pos h1]
      have hl := hP _ h1
      rw [List.length_cons] at hl
      rw [e] at h ⊢
      rw [List.length_cons] at h
      rw [lsf, if_neg (by unfold shP; rw [Bool.and_eq_true, decide_eq_true_iff, List.length_cons]; omega), bkf]
      exact lsf_sh P m z (by have := lsf_len P z; omega)
    · have e : lsf P (a :: z) = lsf P z := by rw [lsf, if_neg h1]
      rw [e] at h ⊢
      rw [lsf, if_neg (by unfold shP; rw [Bool.and_eq_true]; exact fun h2 => h1 h2.1)]
      exact lsf_bk P m hm hP z h
theorem lsf_go (P : List Nat → Bool) (m : Nat) (hp : ∀ x c, P (x ++ [c]) = true → P x = true) (hP : ∀ x, P x = true → x.length ≤ m) (c : Nat) : ∀ y, lsf P (y ++ [c]) = lsf P (lsf (shP P m) y ++ [c])
  | [] => rfl
  | a :: y => by
    by_cases h : shP P m (a :: y) = true
    · rw [lsf, if_pos h]
    · have h' : ¬ P (a :: (y ++ [c])) = true := fun h2 => by
        apply h
        have h3 := hP _ h2
        unfold shP
        rw [Bool.and_eq_true, decide_eq_true_iff]
        refine ⟨hp (a :: y) c h2, ?_⟩
        simp at h3 ⊢; omega
      rw [lsf, if_neg h, List.cons_append, lsf, if_neg h']
      exact lsf_go P m hp hP c y
/-- What ends with a text's last byte. -/
def hitv (ws : List (List Nat)) (vs : List Nat) (m : Nat) (z : List Nat) : Option Nat := if z.drop (z.length - m) ∈ ws then some (vs.getD (ws.idxOf (z.drop (z.length - m))) 0) else none
/-- The hits, byte by byte. -/
def spc (ws : List (List Nat)) (vs : List Nat) (m : Nat) : List Nat → List Nat → List (Int × Int)
  | _, [] => []
  | y, c :: l => (match hitv ws vs m (y ++ [c]) with | some x => [((y.length : Int) + 1 - (m : Int), (x : Int))] | none => []) ++ spc ws vs m (y ++ [c]) l
theorem Wd.nodup {ws : List (List Nat)} {m : Nat} (h : Wd ws m) : ws.Nodup := by
  rw [List.nodup_iff_pairwise_ne, List.pairwise_iff_getElem]
  intro i j hi hj hij he
  have e1 : ws.getD i [] = ws[i] := by simp [List.getD, hi]
  have e2 : ws.getD j [] = ws[j] := by simp [List.getD, hj]
  rw [← e1, ← e2] at he
  have f1 := h.full i hi
  have f2 := h.full j hj
  have := h.inj _ _ (by rw [h.all]; omega) (by rw [h.all]; omega) (f1.trans (he.trans f2.symm))
  omega
theorem Wd.memlen {ws : List (List Nat)} {m : Nat} (h : Wd ws m) {x : List Nat} (hx : x ∈ gS ws (shr ws) m) : x.length ≤ m := by
  obtain ⟨u, hu, rfl⟩ := mem_getS hx
  rcases h.ex u hu with h1 | ⟨d, i, _, p2, _, _, _, p6⟩
  · rw [h1, h.s0]; simp
  · omega
theorem Wd.tbl {ws : List (List Nat)} {m : Nat} (h : Wd ws m) (vs : List Nat) (hw : ws.length ≤ 4096) (hb : ∀ u ∈ ws, Byt u) (hv : vs.length = ws.length) (hm : m ≤ 64) : Au (gS ws (shr ws) m) (ftT ws vs m) ∧ Bk (ftT ws vs m) ∧ Bd (ftT ws vs m) ∧ RR (gS ws (shr ws) m) (ftT ws vs m) ∧ RB (gS ws (shr ws) m) (ftT ws vs m) (gS ws (shr ws) m).length ∧ 0 < (ftT ws vs m).rows.length ∧
    (ftT ws vs m).firsts.length - 1 = (gS ws (shr ws) (m - 1)).length ∧ 2 ≤ (ftT ws vs m).firsts.length ∧ (ftT ws vs m).values = vs ∧ (ftT ws vs m).width = m ∧ (ftT ws vs m).depths = (gS ws (shr ws) m).map List.length := by
  have ha := h.au vs
  have hk := mkT_bk ws vs m
  have hd := mkT_bd ws vs m hw (by omega) hm
  have hy := mkT_byt ws vs m hb hm
  have h2 := mkT_firsts ws vs m
  have hr := lbS_right ha hk hd hy.1 rfl rfl ((mkT ws vs m).firsts.length - 1) (by omega)
  obtain ⟨h3, h4, h5⟩ := lbS_ok (mkT ws vs m) hk hd rfl ((mkT ws vs m).firsts.length - 1) (by omega)
  obtain ⟨e1, e2, e3, e4, e5⟩ := lbS_same (mkT ws vs m) ((mkT ws vs m).firsts.length - 1)
  rw [ha.fe] at hr
  refine ⟨ha.same e1 e2, h3, h4, hr.1, hr.2, ?_, ?_, ?_, e5, e3, ?_⟩
  · show 0 < (lbS _ _).rows.length; rw [h5]; omega
  · show (lbS _ _).firsts.length - 1 = _; rw [e1]; exact h.parts vs
  · show 2 ≤ (lbS _ _).firsts.length; rw [e1]; exact h2
  · show (lbS _ _).depths = _; rw [e4]; exact (lS_gS ws (shr ws) m h.len m (Nat.le_refl _)).2
theorem Wd.wk {ws : List (List Nat)} {m : Nat} (h : Wd ws m) (vs : List Nat) (hw : ws.length ≤ 4096) (hb : ∀ u ∈ ws, Byt u) (hv : vs.length = ws.length) (hm : m ≤ 64) : Wk (ftT ws vs m) := by
  obtain ⟨h1, h2, h3, h4, h5, h6, h7, h8, h9, h10, h11⟩ := h.tbl vs hw hb hv hm
  have hy := mkT_byt ws vs m hb hm
  obtain ⟨e1, e2, e3, e4, e5⟩ := lbS_same (mkT ws vs m) ((mkT ws vs m).firsts.length - 1)
  refine ⟨h3, ?_, h6, ?_, by omega, by omega, ?_⟩
  · show Byt (lbS _ _).letters; rw [e2]; exact hy.1
  · rw [h1.ll]; exact gS_pos _ _ _
  · show Byt (lbS _ _).depths; rw [e4]; exact hy.2
/-- One byte more. -/
theorem Wd.nx {ws : List (List Nat)} {m : Nat} (h : Wd ws m) (vs : List Nat) (hw : ws.length ≤ 4096) (hb : ∀ u ∈ ws, Byt u) (hv : vs.length = ws.length) (hm : m ≤ 64) (s c : Nat) (hs : s < (gS ws (shr ws) (m - 1)).length) (hc : c < 256) : Isx (gS ws (shr ws) m) (nx (ftT ws vs m) c (s + 1) s) (lsf (inS (gS ws (shr ws) m)) ((gS ws (shr ws) m).getD s [] ++ [c])) := by
  obtain ⟨h1, h2, h3, h4, h5, h6, h7, h8, _⟩ := h.tbl vs hw hb hv hm
  have := h.all
  exact nx_right h1 h2 h4 _ h5 h6 c hc (s + 1) s (by omega) (by omega) (by omega)
theorem Wd.part {ws : List (List Nat)} {m : Nat} (h : Wd ws m) (v : Nat) (x : List Nat) (hx : Isx (gS ws (shr ws) m) v x) : ((gS ws (shr ws) (m - 1)).length ≤ v → x.length = m ∧ v - (gS ws (shr ws) (m - 1)).length < ws.length ∧ x = ws.getD (v - (gS ws (shr ws) (m - 1)).length) []) ∧ (¬ (gS ws (shr ws) (m - 1)).length ≤ v → x.length < m) := by
  have hal := h.all
  refine ⟨fun h1 => ?_, fun h1 => ?_⟩
  · have h2 := hx.1
    have hk : v - (gS ws (shr ws) (m - 1)).length < ws.length := by omega
    have := h.full _ hk
    rw [show (gS ws (shr ws) (m - 1)).length + (v - (gS ws (shr ws) (m - 1)).length) = v by omega, hx.2] at this
    exact ⟨by rw [this]; exact h.len _ hk, hk, this⟩
  · rw [← hx.2]; exact h.short v (by omega)
theorem Wd.gd {ws : List (List Nat)} {m : Nat} (h : Wd ws m) (vs : List Nat) (hw : ws.length ≤ 4096) (hb : ∀ u ∈ ws, Byt u) (hv : vs.length = ws.length) (hm : m ≤ 64) : Gd (ftT ws vs m) (fun s => s < (gS ws (shr ws) (m - 1)).length) := by
  obtain ⟨h1, h2, h3, h4, h5, h6, h7, h8, h9, h10, h11⟩ := h.tbl vs hw hb hv hm
  have hal := h.all
  have hll := h1.ll
  have hbl := h3.ll
  refine ⟨fun s hs => by omega, fun s hs s' q1 q2 => h2.nw (by omega) (by omega), fun s hs => by rw [h11, List.length_map]; omega, fun s c hs hc => ?_, fun s c hs hc q => ?_, fun s c hs hc q => ?_⟩
  · have := (h.nx vs hw hb hv hm s c hs hc).1; omega
  · have hI := h.nx vs hw hb hv hm s c hs hc
    rw [h7] at q ⊢
    have hp := (h.part _ _ hI).1 q
    have hB := h5 _ hI.1
    rw [hI.2] at hB
    refine ⟨by rw [h9, hv]; exact hp.2.1, by rw [h2.bl, hll]; exact hI.1, ?_⟩
    have hl2 : (bkf (inS (gS ws (shr ws) m)) (lsf (inS (gS ws (shr ws) m)) ((gS ws (shr ws) m).getD s [] ++ [c]))).length < m := by
      have hp1 := hp.1
      have hm0 := h.m0
      revert hp1
      generalize lsf (inS (gS ws (shr ws) m)) ((gS ws (shr ws) m).getD s [] ++ [c]) = x
      intro hp1
      cases x with
      | nil => simp at hp1; omega
      | cons a x => rw [bkf]; have := lsf_len (inS (gS ws (shr ws) m)) x; simp at hp1; omega
    rcases Nat.lt_or_ge ((ftT ws vs m).backs.getD (Ytceaklefdahfkab.nx (ftT ws vs m) c (s + 1) s) 0) (gS ws (shr ws) (m - 1)).length with h12 | h12
    · exact h12
    · have := ((h.part _ _ hB).1 h12).1; omega
  · rw [h7] at q; omega
/-- What is found from a place on. -/
theorem Wd.fnd {ws : List (List Nat)} {m : Nat} (h : Wd ws m) (vs : List Nat) (hw : ws.length ≤ 4096) (hb : ∀ u ∈ ws, Byt u) (hv : vs.length = ws.length) (hm : m ≤ 64) : ∀ (p y : List Nat) (s : Nat), Byt p → s < (gS ws (shr ws) (m - 1)).length → (gS ws (shr ws) m).getD s [] = lsf (shP (inS (gS ws (shr ws) m)) m) y → fnd (ftT ws vs m) s y.length p = spc ws vs m y p
  | [], _, _, _, _, _ => rfl
  | c :: p, y, s, hp, hs, he => by
    obtain ⟨h1, h2, h3, h4, h5, h6, h7, h8, h9, h10, h11⟩ := h.tbl vs hw hb hv hm
    have hc : c < 256 := hp c (by simp)
    have hI := h.nx vs hw hb hv hm s c hs hc
    have hG := h.gd vs hw hb hv hm
    have hP : ∀ x, inS (gS ws (shr ws) m) x = true → x.length ≤ m := fun x hx => by
      unfold inS at hx; rw [decide_eq_true_iff] at hx; exact h.memlen hx
    rw [he, ← lsf_go _ m h1.hp hP c y] at hI
    have hpt := h.part _ _ hI
    have hB := h5 _ hI.1
    rw [hI.2] at hB
    have hsuf := lsf_suf (inS (gS ws (shr ws) m)) (y ++ [c])
    rw [Ytceaklefdahfkab.fnd, spc]
    have hlen : y.length + 1 = (y ++ [c]).length := by simp
    by_cases hq : (gS ws (shr ws) (m - 1)).length ≤ Ytceaklefdahfkab.nx (ftT ws vs m) c (s + 1) s
    · obtain ⟨p1, p2, p3⟩ := hpt.1 hq
      have hst : stp (ftT ws vs m) s c = ((ftT ws vs m).backs.getD (Ytceaklefdahfkab.nx (ftT ws vs m) c (s + 1) s) 0, some (vs.getD (Ytceaklefdahfkab.nx (ftT ws vs m) c (s + 1) s - (gS ws (shr ws) (m - 1)).length) 0)) := by
        unfold stp; rw [h7, if_pos hq, h9]
      have hgo := (hG.hit s c hs hc (by rw [h7]; exact hq)).2.2
      rw [p1] at hsuf
      have hbk := lsf_bk (inS (gS ws (shr ws) m)) m h.m0 hP (y ++ [c]) (by rw [p1]; exact Nat.le_refl _)
      have ih := Wd.fnd h vs hw hb hv hm p (y ++ [c]) _ (fun x hx => hp x (by simp [hx])) hgo (by rw [hbk]; exact hB.2)
      have hz : (y ++ [c]).drop ((y ++ [c]).length - m) = ws.getD (Ytceaklefdahfkab.nx (ftT ws vs m) c (s + 1) s - (gS ws (shr ws) (m - 1)).length) [] := by rw [← hsuf]; exact p3
      have hiv : hitv ws vs m (y ++ [c]) = some (vs.getD (Ytceaklefdahfkab.nx (ftT ws vs m) c (s + 1) s - (gS ws (shr ws) (m - 1)).length) 0) := by
        unfold hitv
        rw [hz, if_pos (getS_mem p2)]
        congr 2
        have e : ws.getD (Ytceaklefdahfkab.nx (ftT ws vs m) c (s + 1) s - (gS ws (shr ws) (m - 1)).length) [] = ws[Ytceaklefdahfkab.nx (ftT ws vs m) c (s + 1) s - (gS ws (shr ws) (m - 1)).length] := by simp only [List.getD, List.getElem?_eq_getElem p2]; rfl
        rw [e]
        exact h.nodup.idxOf_getElem _ p2
      rw [hst, hiv, h10, hlen]
      simp only
      rw [ih]
    · have hlt := hpt.2 hq
      have hst : stp (ftT ws vs m) s c = (Ytceaklefdahfkab.nx (ftT ws vs m) c (s + 1) s, none) := by
        unfold stp; rw [h7, if_neg hq]
      have hgo := hG.go s c hs hc (by rw [h7]; exact hq)
      have ih := Wd.fnd h vs hw hb hv hm p (y ++ [c]) _ (fun x hx => hp x (by simp [hx])) hgo (by rw [lsf_sh _ m _ hlt]; exact hI.2)
      have hiv : hitv ws vs m (y ++ [c]) = none := by
        unfold hitv
        rw [if_neg]
        intro h12
        have hl12 : ((y ++ [c]).drop ((y ++ [c]).length - m)).length = m := by
          obtain ⟨j, hj, hj2⟩ := mem_getS h12
          rw [← hj2]; exact h.len j hj
        have hmz : m ≤ (y ++ [c]).length := by rw [List.length_drop] at hl12; omega
        obtain ⟨j, hj, hj2⟩ := mem_getS h12
        have := lsf_ge (inS (gS ws (shr ws) m)) (y ++ [c]) m hmz (by
          rw [← hj2, ← h.full j hj]
          unfold inS; rw [decide_eq_true_iff]
          exact getS_mem (by rw [h.all]; omega))
        omega
      rw [hst, hiv, hlen]
      simp only [List.nil_append]
      exact ih
end Go.Proofs.Ytceaklefdahfkab
