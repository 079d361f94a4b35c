/- The sieve's automaton: which states follow upon which. -/
import Derived.Test.YtceaklefdahfkabAm1
namespace Go.Proofs.Ytceaklefdahfkab
open Go.RowKit
/-- Each state but the first has its own beginning ahead of it. -/
def PF (S : List (List Nat)) (F : List Nat) : Prop := ∀ t, 0 < t → t < S.length → ∃ p, p < F.length ∧ F.getD p 0 ≤ t ∧ (∀ q, p < q → q < F.length → t < F.getD q 0) ∧ S.getD t [] = S.getD p [] ++ [lst (S.getD t [])]
theorem getS_snoc (S : List (List Nat)) (x : List Nat) (j : Nat) (h : j < S.length) : (S ++ [x]).getD j [] = S.getD j [] := by rw [List.getD, List.getElem?_append_left h, ← List.getD]
theorem getS_last (S : List (List Nat)) (x : List Nat) : (S ++ [x]).getD S.length [] = x := by simp [List.getD]
theorem take_lst (w : List Nat) (d : Nat) (h : d < w.length) : w.take (d + 1) = w.take d ++ [lst (w.take (d + 1))] := by
  rw [lst_take w (d + 1) (by omega) (by omega), Nat.add_sub_cancel, take_snoc h]
theorem PF.addF {S : List (List Nat)} {F : List Nat} (h : PF S F) : PF S (F ++ [S.length]) := fun t h1 h2 => by
  obtain ⟨p, h3, h4, h5, h6⟩ := h t h1 h2
  refine ⟨p, by simp; omega, ?_, fun q hq hq2 => ?_, h6⟩
  · rw [getD_snoc, if_pos h3]; exact h4
  · rw [getD_snoc]
    by_cases h7 : q < F.length
    · rw [if_pos h7]; exact h5 q hq h7
    · rw [if_neg h7, if_pos (by simp at hq2; omega)]; exact h2
theorem PF.addS {S : List (List Nat)} {F : List Nat} (h : PF S F) (hn : 0 < F.length) (hF : ∀ j, j < F.length → F.getD j 0 ≤ S.length) (x : List Nat) (hfl : F.length ≤ S.length) (hx : x = S.getD (F.length - 1) [] ++ [lst x]) : PF (S ++ [x]) F := fun t h1 h2 => by
  by_cases h3 : t < S.length
  · obtain ⟨p, h4, h5, h6, h7⟩ := h t h1 h3
    exact ⟨p, h4, h5, h6, by rw [getS_snoc _ _ _ h3, getS_snoc _ _ _ (by omega)]; exact h7⟩
  · have : t = S.length := by simp at h2; omega
    subst this
    exact ⟨F.length - 1, by omega, hF _ (by omega), fun q h4 h5 => by omega, by rw [getS_last, getS_snoc _ _ _ (by omega)]; exact hx⟩
/-- One length more. -/
theorem lD_pf (d : Nat) (ws : List (List Nat)) (sh : List Nat) (h0 : sh.getD 0 0 = 0) (hs : ∀ d, Shr ws sh d) (hw : ∀ i, i < ws.length → d < (ws.getD i []).length) (s : T3) (hl : s.1.length = (gS ws sh d).length) (hiv : Iv s.1 s.2.2) (h2 : d = 0 ∨ s.2.2.length < s.1.length)
    (hfl : s.2.2.length = if d = 0 then 1 else (gS ws sh (d - 1)).length) (h : PF (gS ws sh d) s.2.2) : ∀ i, i ≤ ws.length → PF (gD (d + 1) ws sh (gS ws sh d) i) (lD (d + 1) ws sh s i).2.2 ∧ (lD (d + 1) ws sh s i).1.length = (gD (d + 1) ws sh (gS ws sh d) i).length
  | 0, _ => ⟨h, hl⟩
  | i + 1, hi => by
    obtain ⟨ih, il⟩ := lD_pf d ws sh h0 hs hw s hl hiv h2 hfl h i (by omega)
    obtain ⟨v1, v2⟩ := lD_iv (d + 1) ws sh s hiv (by rcases h2 with h2 | h2; exact .inl (by omega); exact .inr h2) i
    have fl := lD_fl (d + 1) ws sh s i
    rw [Nat.add_sub_cancel] at fl
    have gl := gD_len (d + 1) ws sh (gS ws sh d) i
    have hwi := hw i (by omega)
    rw [lD, l1, gD, g1]
    obtain ⟨A, D, F, e⟩ : ∃ A D F, lD (d + 1) ws sh s i = (A, D, F) := ⟨_, _, _, rfl⟩
    rw [e] at ih il v1 v2 fl ⊢
    simp only at ih il v1 v2 fl ⊢
    by_cases h3 : sh.getD i 0 < d + 1
    · rw [if_pos h3, if_pos h3]
      simp only [Nat.add_sub_cancel]
      refine ⟨?_, by simp [il]⟩
      by_cases h4 : sh.getD i 0 < d
      · rw [if_pos h4, il]
        have hd : d ≠ 0 := by omega
        rw [if_neg hd] at hfl
        have v3 : F.length < A.length := by rcases v2 with v2 | v2 <;> omega
        have vF := v1.addF v3
        rw [il] at vF v3
        have hidx : idx ws sh d i = F.length := by
          unfold idx; rw [if_neg hd, cnt, if_pos h4]; omega
        refine (ih.addF).addS (by simp) (fun j hj => by have := vF.last j hj; omega) _ (by simp; omega) ?_
        rw [List.length_append, List.length_singleton, Nat.add_sub_cancel]
        have hat := gS_at ws sh h0 hs d d i (Nat.le_refl _) (by omega)
        rw [hidx] at hat
        have hlt := idx_lt ws sh d i (by omega)
        rw [hidx] at hlt
        rw [gD_old (d + 1) ws sh (gS ws sh d) F.length 0 (by rw [gD]; exact hlt) i (by omega), gD, hat]
        exact take_lst _ d hwi
      · rw [if_neg h4]
        have vl : F.length ≤ A.length := by
          rcases v2 with v2 | v2
          · have : d = 0 := by omega
            subst this
            rw [cnt0, Nat.add_zero, hfl, if_pos rfl] at fl
            have := v1.ap
            omega
          · omega
        have hidx : idx ws sh d i = F.length - 1 := by
          unfold idx
          by_cases hd : d = 0
          · subst hd
            rw [if_pos rfl] at hfl ⊢
            rw [cnt0] at fl
            omega
          · rw [if_neg hd] at hfl ⊢
            rw [cnt, if_neg h4]; omega
        refine ih.addS v1.ne (fun j hj => by rw [← il]; exact v1.last j hj) _ (by omega) ?_
        have hat := gS_at ws sh h0 hs d d i (Nat.le_refl _) (by omega)
        rw [hidx] at hat
        have hlt := idx_lt ws sh d i (by omega)
        rw [hidx] at hlt
        rw [gD_old (d + 1) ws sh (gS ws sh d) (F.length - 1) 0 (by rw [gD]; exact hlt) i (by omega), gD, hat]
        exact take_lst _ d hwi
    · rw [if_neg h3, if_neg h3]
      exact ⟨ih, il⟩
theorem lS_pf (ws : List (List Nat)) (sh : List Nat) (h0 : sh.getD 0 0 = 0) (hs : ∀ d, Shr ws sh d) (m : Nat) (hw : ∀ i, i < ws.length → (ws.getD i []).length = m) (hne : ws ≠ []) : ∀ d, d ≤ m → PF (gS ws sh d) (lS ws sh d).2.2
  | 0, _ => fun t h1 h2 => by simp [gS] at h2; omega
  | d + 1, hd => by
    have ih := lS_pf ws sh h0 hs m hw hne d (by omega)
    have hiv := lS_iv ws sh h0 d
    refine (lD_pf d ws sh h0 hs (fun i hi => by rw [hw i hi]; omega) (lS ws sh d) (lS_gl ws sh m hw d (by omega)) hiv.1 ?_ ?_ ih ws.length (Nat.le_refl _)).1
    · rcases hiv.2 with h | h | h
      · exact .inl h
      · exact absurd h hne
      · exact .inr h
    · cases d with
      | zero => rfl
      | succ d => rw [if_neg (by omega), Nat.add_sub_cancel]; exact lS_fl ws sh d
/-- Words in order. -/
def Asc (ws : List (List Nat)) : Prop := ∀ i j, i < j → j < ws.length → ws.getD i [] ≤ ws.getD j []
theorem take_mono : ∀ (a b : List Nat) (e : Nat), a ≤ b → a.take e ≤ b.take e
  | _, _, 0, _ => by simp
  | [], _, e + 1, _ => by simp
  | x :: a, [], e + 1, h => by
    exact absurd h (by simp)
  | x :: a, y :: b, e + 1, h => by
    rw [List.take_succ_cons, List.take_succ_cons, List.cons_le_cons_iff]
    rw [List.cons_le_cons_iff] at h
    rcases h with h | ⟨h1, h2⟩
    · exact .inl h
    · exact .inr ⟨h1, take_mono a b e h2⟩
theorem cpf_take : ∀ (a b : List Nat) (e : Nat), e ≤ a.length → e ≤ b.length → a.take e = b.take e → e ≤ cpf a b
  | _, _, 0, _, _, _ => Nat.zero_le _
  | [], _, e + 1, h, _, _ => by simp at h
  | _ :: _, [], e + 1, _, h, _ => by simp at h
  | x :: a, y :: b, e + 1, h1, h2, h3 => by
    simp only [List.take_succ_cons, List.cons.injEq] at h3
    unfold cpf
    rw [if_pos h3.1]
    have := cpf_take a b e (by simpa using h1) (by simpa using h2) h3.2
    omega
theorem take_cpf : ∀ (a b : List Nat) (e : Nat), e ≤ cpf a b → a.take e = b.take e
  | _, _, 0, _ => by simp
  | [], _, e + 1, h => by simp [cpf] at h
  | _ :: _, [], e + 1, h => by simp [cpf] at h
  | x :: a, y :: b, e + 1, h => by
    unfold cpf at h
    by_cases h1 : x = y
    · rw [if_pos h1] at h
      rw [List.take_succ_cons, List.take_succ_cons, h1, take_cpf a b e (by omega)]
    · rw [if_neg h1] at h; omega
theorem shr_Shr (ws : List (List Nat)) (d : Nat) : Shr ws (shr ws) d := fun i h1 h2 h3 => by
  rw [shr_get ws i h2, if_neg (by omega)] at h3
  exact take_cpf _ _ _ h3
theorem cnt_same (sh : List Nat) (e i : Nat) : ∀ j, i ≤ j → (∀ k, i < k → k ≤ j → e ≤ sh.getD k 0) → cnt sh e (j + 1) = cnt sh e (i + 1) := by
  intro j
  induction j with
  | zero => intro h _; have : i = 0 := by omega
            subst this; rfl
  | succ j ih =>
    intro h h2
    by_cases h3 : i = j + 1
    · subst h3; rfl
    · rw [cnt, ih (by omega) (fun k h4 h5 => h2 k h4 (by omega)), if_neg (by have := h2 (j + 1) (by omega) (by omega); omega)]
      rfl
/-- One beginning, one state. -/
theorem idx_same (ws : List (List Nat)) (ha : Asc ws) (m : Nat) (hw : ∀ i, i < ws.length → (ws.getD i []).length = m) (e : Nat) (he : e ≤ m) (i j : Nat) (hij : i ≤ j) (hj : j < ws.length) (h : (ws.getD i []).take e = (ws.getD j []).take e) : idx ws (shr ws) e i = idx ws (shr ws) e j := by
  unfold idx
  by_cases h0 : e = 0
  · rw [if_pos h0, if_pos h0]
  · rw [if_neg h0, if_neg h0]
    have mid : ∀ k, i ≤ k → k ≤ j → (ws.getD k []).take e = (ws.getD i []).take e := fun k h1 h2 => by
      by_cases h3 : k = i
      · rw [h3]
      · by_cases h4 : k = j
        · rw [h4, h]
        · have q1 := take_mono _ _ e (ha i k (by omega) (by omega))
          have q2 := take_mono _ _ e (ha k j (by omega) (by omega))
          rw [← h] at q2
          exact List.le_antisymm q2 q1
    rw [cnt_same (shr ws) e i j hij fun k h1 h2 => ?_]
    rw [shr_get ws k (by omega), if_neg (by omega)]
    refine cpf_take _ _ _ (by rw [hw k (by omega)]; exact he) (by rw [hw (k - 1) (by omega)]; exact he) ?_
    rw [mid k (by omega) h2, mid (k - 1) (by omega) (by omega)]
end Go.Proofs.Ytceaklefdahfkab
