/- The sieve's automaton: which beginnings the states are. -/
import Derived.Test.YtceaklefdahfkabSv16
namespace Go.Proofs.Ytceaklefdahfkab
open Go.RowKit
/-- The states' texts, beside the letters. -/
def g1 (d : Nat) (S : List (List Nat)) (wd : List Nat) (sh : Nat) : List (List Nat) := if sh < d then S ++ [wd.take d] else S
def gD (d : Nat) (ws : List (List Nat)) (sh : List Nat) (S : List (List Nat)) : Nat → List (List Nat)
  | 0 => S
  | i + 1 => g1 d (gD d ws sh S i) (ws.getD i []) (sh.getD i 0)
def gS (ws : List (List Nat)) (sh : List Nat) : Nat → List (List Nat)
  | 0 => [[]]
  | d + 1 => gD (d + 1) ws sh (gS ws sh d) ws.length
/-- How many of the first words begin something new at a length. -/
def cnt (sh : List Nat) (e : Nat) : Nat → Nat
  | 0 => 0
  | i + 1 => cnt sh e i + if sh.getD i 0 < e then 1 else 0
theorem cnt_mono (sh : List Nat) (e : Nat) {i j : Nat} (h : i ≤ j) : cnt sh e i ≤ cnt sh e j := by
  induction j with
  | zero => have : i = 0 := by omega
            subst this; exact Nat.le_refl _
  | succ j ih =>
    by_cases h2 : i = j + 1
    · subst h2; exact Nat.le_refl _
    · have := ih (by omega)
      rw [cnt]; omega
theorem cnt_pos (sh : List Nat) (e : Nat) (h0 : sh.getD 0 0 = 0) (he : 0 < e) (i : Nat) : 1 ≤ cnt sh e (i + 1) := by
  have := cnt_mono sh e (i := 1) (j := i + 1) (by omega)
  have h1 : cnt sh e 1 = 1 := by simp only [cnt]; rw [h0, if_pos he]
  omega
theorem cnt_ex (sh : List Nat) (e : Nat) : ∀ k j, j < cnt sh e k → ∃ i, i < k ∧ sh.getD i 0 < e ∧ cnt sh e (i + 1) = j + 1
  | 0, _, h => by simp [cnt] at h
  | k + 1, j, h => by
    by_cases h1 : j < cnt sh e k
    · obtain ⟨i, h2, h3, h4⟩ := cnt_ex sh e k j h1
      exact ⟨i, by omega, h3, h4⟩
    · rw [cnt] at h
      by_cases h2 : sh.getD k 0 < e
      · rw [if_pos h2] at h
        exact ⟨k, by omega, h2, by rw [cnt, if_pos h2]; omega⟩
      · rw [if_neg h2] at h; omega
theorem gD_len (d : Nat) (ws : List (List Nat)) (sh : List Nat) (S : List (List Nat)) : ∀ i, (gD d ws sh S i).length = S.length + cnt sh d i
  | 0 => rfl
  | i + 1 => by
    rw [gD, g1, cnt]
    have := gD_len d ws sh S i
    split
    · rw [List.length_append, List.length_singleton]; omega
    · omega
theorem gD_old (d : Nat) (ws : List (List Nat)) (sh : List Nat) (S : List (List Nat)) (j k : Nat) (hj : j < (gD d ws sh S k).length) : ∀ i, k ≤ i → (gD d ws sh S i).getD j [] = (gD d ws sh S k).getD j [] := by
  intro i hi
  induction i with
  | zero => have : k = 0 := by omega
            subst this; rfl
  | succ i ih =>
    by_cases h2 : k = i + 1
    · subst h2; rfl
    · rw [← ih (by omega), gD, g1]
      split
      · have h3 := cnt_mono sh d (i := k) (j := i) (by omega)
        have h4 := gD_len d ws sh S k
        have h5 := gD_len d ws sh S i
        rw [List.getD, List.getElem?_append_left (by omega), ← List.getD]
      · rfl
/-- Neighbours that share so many bytes begin alike. -/
def Shr (ws : List (List Nat)) (sh : List Nat) (d : Nat) : Prop := ∀ i, 0 < i → i < ws.length → d ≤ sh.getD i 0 → (ws.getD i []).take d = (ws.getD (i - 1) []).take d
theorem gD_at (d : Nat) (hd : 0 < d) (ws : List (List Nat)) (sh : List Nat) (S : List (List Nat)) (h0 : sh.getD 0 0 = 0) (hs : Shr ws sh d) : ∀ i, i < ws.length → ∀ k, i < k → (gD d ws sh S k).getD (S.length + cnt sh d (i + 1) - 1) [] = (ws.getD i []).take d := by
  intro i
  induction i with
  | zero =>
    intro _ k hk
    have h1 : cnt sh d (0 + 1) = 1 := by simp only [cnt]; rw [h0, if_pos hd]
    rw [gD_old d ws sh S _ 1 (by rw [gD_len, h1]; omega) k (by omega), gD, g1, gD, h0, if_pos hd, h1]
    simp [List.getD]
  | succ i ih =>
    intro hi k hk
    have hp := cnt_pos sh d h0 hd i
    have hp2 := cnt_pos sh d h0 hd (i + 1)
    rw [gD_old d ws sh S _ (i + 1 + 1) (by rw [gD_len]; omega) k (by omega), gD, g1, cnt]
    by_cases h2 : sh.getD (i + 1) 0 < d
    · rw [if_pos h2, if_pos h2]
      have hl := gD_len d ws sh S (i + 1)
      rw [List.getD, List.getElem?_append_right (by omega), show S.length + (cnt sh d (i + 1) + 1) - 1 - (gD d ws sh S (i + 1)).length = 0 by omega]
      rfl
    · rw [if_neg h2, if_neg h2, show S.length + (cnt sh d (i + 1) + 0) - 1 = S.length + cnt sh d (i + 1) - 1 by omega, ih (by omega) (i + 1) (by omega)]
      exact (hs (i + 1) (by omega) hi (by omega)).symm
/-- Where a word's beginning of a length lies. -/
def idx (ws : List (List Nat)) (sh : List Nat) (d i : Nat) : Nat := if d = 0 then 0 else (gS ws sh (d - 1)).length + cnt sh d (i + 1) - 1
theorem gS_len (ws : List (List Nat)) (sh : List Nat) (d : Nat) : (gS ws sh (d + 1)).length = (gS ws sh d).length + cnt sh (d + 1) ws.length := by rw [gS, gD_len]
theorem gS_pos (ws : List (List Nat)) (sh : List Nat) : ∀ d, 0 < (gS ws sh d).length
  | 0 => by simp [gS]
  | d + 1 => by have := gS_pos ws sh d; rw [gS_len]; omega
theorem gS_mono (ws : List (List Nat)) (sh : List Nat) {d e : Nat} (h : d ≤ e) : (gS ws sh d).length ≤ (gS ws sh e).length := by
  induction e with
  | zero => have : d = 0 := by omega
            subst this; exact Nat.le_refl _
  | succ e ih =>
    by_cases h2 : d = e + 1
    · subst h2; exact Nat.le_refl _
    · have := ih (by omega); rw [gS_len]; omega
theorem gS_old (ws : List (List Nat)) (sh : List Nat) (j d : Nat) (hj : j < (gS ws sh d).length) : ∀ e, d ≤ e → (gS ws sh e).getD j [] = (gS ws sh d).getD j [] := by
  intro e he
  induction e with
  | zero => have : d = 0 := by omega
            subst this; rfl
  | succ e ih =>
    by_cases h2 : d = e + 1
    · subst h2; rfl
    · rw [← ih (by omega), gS]
      exact gD_old (e + 1) ws sh (gS ws sh e) j 0 (by rw [gD]; have := gS_mono ws sh (d := d) (e := e) (by omega); omega) _ (by omega)
theorem idx_lt (ws : List (List Nat)) (sh : List Nat) (d i : Nat) (hi : i < ws.length) : idx ws sh d i < (gS ws sh d).length := by
  unfold idx
  by_cases hd : d = 0
  · subst hd; rw [if_pos rfl]; exact gS_pos _ _ _
  · rw [if_neg hd]
    obtain ⟨e, rfl⟩ : ∃ e, d = e + 1 := ⟨d - 1, by omega⟩
    have h1 := cnt_mono sh (e + 1) (i := i + 1) (j := ws.length) (by omega)
    have h2 := gS_pos ws sh e
    rw [gS_len, Nat.add_sub_cancel]
    omega
/-- Each beginning of a word is a state. -/
theorem gS_at (ws : List (List Nat)) (sh : List Nat) (h0 : sh.getD 0 0 = 0) (hs : ∀ d, Shr ws sh d) (d e i : Nat) (hd : d ≤ e) (hi : i < ws.length) : (gS ws sh e).getD (idx ws sh d i) [] = (ws.getD i []).take d := by
  rw [gS_old ws sh _ d (idx_lt ws sh d i hi) e hd]
  unfold idx
  by_cases h : d = 0
  · subst h; rw [if_pos rfl, List.take_zero]; rfl
  · rw [if_neg h]
    obtain ⟨d', rfl⟩ : ∃ e, d = e + 1 := ⟨d - 1, by omega⟩
    rw [gS, Nat.add_sub_cancel]
    exact gD_at (d' + 1) (by omega) ws sh _ h0 (hs _) i hi ws.length hi
/-- Each state is one. -/
theorem gS_ex (ws : List (List Nat)) (sh : List Nat) : ∀ e t, t < (gS ws sh e).length → t = 0 ∨ ∃ d i, 0 < d ∧ d ≤ e ∧ i < ws.length ∧ sh.getD i 0 < d ∧ t = idx ws sh d i
  | 0, t, h => .inl (by simp [gS] at h; exact h)
  | e + 1, t, h => by
    by_cases h1 : t < (gS ws sh e).length
    · rcases gS_ex ws sh e t h1 with h2 | ⟨d, i, h2, h3, h4⟩
      · exact .inl h2
      · exact .inr ⟨d, i, h2, by omega, h4⟩
    · rw [gS_len] at h
      obtain ⟨i, h2, h3, h4⟩ := cnt_ex sh (e + 1) ws.length (t - (gS ws sh e).length) (by omega)
      refine .inr ⟨e + 1, i, by omega, Nat.le_refl _, h2, h3, ?_⟩
      unfold idx
      rw [if_neg (by omega), Nat.add_sub_cancel]
      omega
/-- The last byte. -/
def lst (x : List Nat) : Nat := x.getD (x.length - 1) 0
theorem lst_take (w : List Nat) (d : Nat) (h : 0 < d) (hl : d ≤ w.length) : lst (w.take d) = w.getD (d - 1) 0 := by
  unfold lst
  rw [List.length_take, Nat.min_eq_left hl, List.getD, List.getElem?_take, if_pos (by omega), ← List.getD]
theorem lD_gD (d : Nat) (hd : 0 < d) (ws : List (List Nat)) (hw : ∀ i, i < ws.length → d ≤ (ws.getD i []).length) (sh : List Nat) (s : T3) (S : List (List Nat)) (h1 : s.1 = S.map lst) (h2 : s.2.1 = S.map List.length) : ∀ i, i ≤ ws.length → (lD d ws sh s i).1 = (gD d ws sh S i).map lst ∧ (lD d ws sh s i).2.1 = (gD d ws sh S i).map List.length
  | 0, _ => ⟨h1, h2⟩
  | i + 1, hi => by
    have ih := lD_gD d hd ws hw sh s S h1 h2 i (by omega)
    have hl := hw i (by omega)
    rw [lD, l1, gD, g1]
    split
    · simp only [List.map_append, List.map_cons, List.map_nil]
      rw [ih.1, ih.2, lst_take _ _ hd hl, List.length_take, Nat.min_eq_left hl]
      exact ⟨rfl, rfl⟩
    · exact ih
theorem lS_gS (ws : List (List Nat)) (sh : List Nat) (m : Nat) (hw : ∀ i, i < ws.length → (ws.getD i []).length = m) : ∀ d, d ≤ m → (lS ws sh d).1 = (gS ws sh d).map lst ∧ (lS ws sh d).2.1 = (gS ws sh d).map List.length
  | 0, _ => ⟨rfl, rfl⟩
  | d + 1, hd => by
    have ih := lS_gS ws sh m hw d (by omega)
    exact lD_gD (d + 1) (by omega) ws (fun i hi => by rw [hw i hi]; exact hd) sh _ _ ih.1 ih.2 _ (Nat.le_refl _)
theorem lS_gl (ws : List (List Nat)) (sh : List Nat) (m : Nat) (hw : ∀ i, i < ws.length → (ws.getD i []).length = m) (d : Nat) (hd : d ≤ m) : (lS ws sh d).1.length = (gS ws sh d).length := by rw [(lS_gS ws sh m hw d hd).1, List.length_map]
/-- How many firsts. -/
theorem lD_fl (d : Nat) (ws : List (List Nat)) (sh : List Nat) (s : T3) : ∀ i, (lD d ws sh s i).2.2.length = s.2.2.length + cnt sh (d - 1) i
  | 0 => rfl
  | i + 1 => by
    have ih := lD_fl d ws sh s i
    rw [lD, l1, cnt]
    by_cases h : sh.getD i 0 < d
    · rw [if_pos h]
      simp only
      by_cases h2 : sh.getD i 0 < d - 1
      · rw [if_pos h2, if_pos h2, List.length_append, List.length_singleton]; omega
      · rw [if_neg h2, if_neg h2]; omega
    · rw [if_neg h, if_neg (by omega)]; omega
theorem cnt0 (sh : List Nat) : ∀ i, cnt sh 0 i = 0
  | 0 => rfl
  | i + 1 => by rw [cnt, cnt0 sh i, if_neg (by omega)]
theorem lS_fl (ws : List (List Nat)) (sh : List Nat) : ∀ d, (lS ws sh (d + 1)).2.2.length = (gS ws sh d).length
  | 0 => by
    rw [lS, lD_fl, Nat.add_sub_cancel, cnt0]
    rfl
  | d + 1 => by
    rw [lS, lD_fl, lS_fl ws sh d, Nat.add_sub_cancel, gS_len]
end Go.Proofs.Ytceaklefdahfkab
