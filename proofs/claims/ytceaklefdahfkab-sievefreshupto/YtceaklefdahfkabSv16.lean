/- The sieve's table: what the states laid down are like. -/
import Derived.Test.YtceaklefdahfkabSv14
namespace Go.Proofs.Ytceaklefdahfkab
open Go.RowKit
theorem getD_snoc (l : List Nat) (x j : Nat) : (l ++ [x]).getD j 0 = if j < l.length then l.getD j 0 else if j = l.length then x else 0 := by
  simp only [List.getD]
  split
  · next h => rw [List.getElem?_append_left h]
  · next h =>
    rw [List.getElem?_append_right (by omega)]
    split
    · next h2 => simp [h2]
    · next h2 => rw [List.getElem?_eq_none (by simp; omega)]; rfl
/-- The firsts rise, and lie above. -/
structure Iv (A F : List Nat) : Prop where
  ne : 0 < F.length
  mono : ∀ i j, i ≤ j → j < F.length → F.getD i 0 ≤ F.getD j 0
  last : ∀ j, j < F.length → F.getD j 0 ≤ A.length
  pos : ∀ j, j < F.length → 1 ≤ F.getD j 0
  low : ∀ j, j < F.length → j < F.getD j 0
  ap : 0 < A.length
theorem Iv.addA {A F : List Nat} (h : Iv A F) (x : Nat) : Iv (A ++ [x]) F :=
  ⟨h.ne, h.mono, fun j hj => by have := h.last j hj; rw [List.length_append]; omega, h.pos, h.low, by simp⟩
theorem Iv.addF {A F : List Nat} (h : Iv A F) (hl : F.length < A.length) : Iv A (F ++ [A.length]) := by
  have ha := h.ap
  refine ⟨by simp, ?_, ?_, ?_, ?_, h.ap⟩
  · intro i j hij hj
    simp only [List.length_append, List.length_singleton] at hj
    rw [getD_snoc, getD_snoc]
    by_cases h1 : j < F.length
    · rw [if_pos h1, if_pos (by omega)]; exact h.mono i j hij h1
    · rw [if_neg h1, if_pos (show j = F.length by omega)]
      by_cases h2 : i < F.length
      · rw [if_pos h2]; exact h.last i h2
      · rw [if_neg h2, if_pos (by omega)]; exact Nat.le_refl _
  all_goals
    intro j hj
    simp only [List.length_append, List.length_singleton] at hj
    rw [getD_snoc]
    by_cases h1 : j < F.length
    · rw [if_pos h1]; first | exact h.last j h1 | exact h.pos j h1 | exact h.low j h1
    · rw [if_neg h1, if_pos (show j = F.length by omega)]; omega
theorem l1_iv (d : Nat) (s : T3) (wd : List Nat) (sh : Nat) (h : Iv s.1 s.2.2) (h2 : d = 1 ∨ s.2.2.length < s.1.length) : Iv (l1 d s wd sh).1 (l1 d s wd sh).2.2 ∧ (d = 1 ∨ (l1 d s wd sh).2.2.length < (l1 d s wd sh).1.length) := by
  unfold l1
  split
  · simp only
    split
    · next h3 =>
      have h4 : s.2.2.length < s.1.length := by rcases h2 with h2 | h2 <;> omega
      exact ⟨(h.addF h4).addA _, .inr (by simp; omega)⟩
    · refine ⟨h.addA _, ?_⟩
      rcases h2 with h2 | h2
      · exact .inl h2
      · exact .inr (by simp; omega)
  · exact ⟨h, h2⟩
theorem lD_iv (d : Nat) (ws : List (List Nat)) (sh : List Nat) (s : T3) (h : Iv s.1 s.2.2) (h2 : d = 1 ∨ s.2.2.length < s.1.length) : ∀ i, Iv (lD d ws sh s i).1 (lD d ws sh s i).2.2 ∧ (d = 1 ∨ (lD d ws sh s i).2.2.length < (lD d ws sh s i).1.length)
  | 0 => ⟨h, h2⟩
  | i + 1 => by
    have ih := lD_iv d ws sh s h h2 i
    exact l1_iv d _ _ _ ih.1 ih.2
theorem lD_one (ws : List (List Nat)) (sh : List Nat) (s : T3) (h0 : sh.getD 0 0 = 0) : ∀ i, (lD 1 ws sh s i).2.2 = s.2.2 ∧ s.1.length + min i 1 ≤ (lD 1 ws sh s i).1.length
  | 0 => ⟨rfl, by simp [lD]⟩
  | i + 1 => by
    have ih := lD_one ws sh s h0 i
    rw [lD, l1]
    split
    · simp only
      rw [if_neg (by omega)]
      refine ⟨ih.1, by simp; omega⟩
    · next h =>
      refine ⟨ih.1, ?_⟩
      cases i with
      | zero => omega
      | succ i => omega
theorem lS_iv (ws : List (List Nat)) (sh : List Nat) (h0 : sh.getD 0 0 = 0) : ∀ d, Iv (lS ws sh d).1 (lS ws sh d).2.2 ∧ (d = 0 ∨ ws = [] ∨ (lS ws sh d).2.2.length < (lS ws sh d).1.length)
  | 0 => ⟨⟨by simp [lS], fun i j h1 h2 => by simp [lS] at h2; subst h2; have : i = 0 := by omega
                                             subst this; exact Nat.le_refl _, fun j h => by simp [lS] at h; subst h; simp [lS], fun j h => by simp [lS] at h; subst h; simp [lS], fun j h => by simp [lS] at h; subst h; simp [lS], by simp [lS]⟩, .inl rfl⟩
  | d + 1 => by
    have ih := lS_iv ws sh h0 d
    by_cases hw : ws = []
    · subst hw
      exact ⟨ih.1, .inr (.inl rfl)⟩
    · have hl : 0 < ws.length := List.length_pos_iff.2 hw
      rw [lS]
      by_cases hd : d = 0
      · subst hd
        have h1 := lD_iv 1 ws sh (lS ws sh 0) ih.1 (.inl rfl) ws.length
        have h2 := lD_one ws sh (lS ws sh 0) h0 ws.length
        refine ⟨h1.1, .inr (.inr ?_)⟩
        show (lD 1 ws sh (lS ws sh 0) ws.length).2.2.length < (lD 1 ws sh (lS ws sh 0) ws.length).1.length
        rw [h2.1]
        have h3 := h2.2
        have e1 : (lS ws sh 0).1.length = 1 := rfl
        have e2 : (lS ws sh 0).2.2.length = 1 := rfl
        rw [e1] at h3
        rw [e2]
        omega
      · have hlt : (lS ws sh d).2.2.length < (lS ws sh d).1.length := by
          rcases ih.2 with h | h | h
          · exact absurd h hd
          · exact absurd h hw
          · exact h
        have h1 := lD_iv (d + 1) ws sh (lS ws sh d) ih.1 (.inr hlt) ws.length
        refine ⟨h1.1, .inr (.inr ?_)⟩
        rcases h1.2 with h | h
        · omega
        · exact h
theorem byt_snoc {l : List Nat} {x : Nat} (h : Byt l) (hx : x < 256) : Byt (l ++ [x]) := fun y hy => by
  rcases List.mem_append.1 hy with h1 | h1
  · exact h y h1
  · rw [List.mem_singleton.1 h1]; exact hx
theorem getD_byt {l : List Nat} (h : Byt l) (j : Nat) : l.getD j 0 < 256 := by
  by_cases hj : j < l.length
  · have : l.getD j 0 = l[j] := by simp [List.getD, hj]
    rw [this]; exact h _ (List.getElem_mem hj)
  · have : l.getD j 0 = 0 := by simp [List.getD, List.getElem?_eq_none (Nat.le_of_not_lt hj)]
    omega
theorem lD_byt (d : Nat) (hd : d < 256) (ws : List (List Nat)) (hw : ∀ u ∈ ws, Byt u) (sh : List Nat) (s : T3) (h : Byt s.1 ∧ Byt s.2.1) : ∀ i, Byt (lD d ws sh s i).1 ∧ Byt (lD d ws sh s i).2.1
  | 0 => h
  | i + 1 => by
    have ih := lD_byt d hd ws hw sh s h i
    rw [lD, l1]
    split
    · refine ⟨byt_snoc ih.1 ?_, byt_snoc ih.2 hd⟩
      by_cases hi : i < ws.length
      · have : ws.getD i [] = ws[i] := by simp [List.getD, hi]
        rw [this]; exact getD_byt (hw _ (List.getElem_mem hi)) _
      · have : ws.getD i [] = [] := by simp [List.getD, List.getElem?_eq_none (Nat.le_of_not_lt hi)]
        rw [this]; simp
    · exact ih
theorem lS_byt (ws : List (List Nat)) (hw : ∀ u ∈ ws, Byt u) (sh : List Nat) : ∀ d, d < 256 → Byt (lS ws sh d).1 ∧ Byt (lS ws sh d).2.1
  | 0, _ => ⟨fun x hx => by simp [lS] at hx; omega, fun x hx => by simp [lS] at hx; omega⟩
  | d + 1, h => lD_byt (d + 1) h ws hw sh _ (lS_byt ws hw sh d (by omega)) ws.length
theorem shr_0 (ws : List (List Nat)) : (shr ws).getD 0 0 = 0 := by
  by_cases h : 0 < ws.length
  · rw [shr_get ws 0 h, if_pos rfl]
  · have : ws = [] := List.length_eq_zero_iff.1 (by omega)
    subst this; rfl
/-- The table with its states laid down. -/
def mkT (ws : List (List Nat)) (vs : List Nat) (m : Nat) : Tbl :=
  { width := m, letters := (lS ws (shr ws) m).1, depths := (lS ws (shr ws) m).2.1, firsts := (lS ws (shr ws) m).2.2 ++ [(lS ws (shr ws) m).1.length], backs := List.replicate (lS ws (shr ws) m).1.length 0, rows := [], values := vs }
/-- The table. -/
def ftT (ws : List (List Nat)) (vs : List Nat) (m : Nat) : Tbl := lbS (mkT ws vs m) ((mkT ws vs m).firsts.length - 1)
theorem mkT_bk (ws : List (List Nat)) (vs : List Nat) (m : Nat) : Bk (mkT ws vs m) := by
  have h := (lS_iv ws (shr ws) (shr_0 ws) m).1
  obtain ⟨A, D, F, e⟩ : ∃ A D F, lS ws (shr ws) m = (A, D, F) := ⟨_, _, _, rfl⟩
  unfold mkT
  rw [e] at h ⊢
  simp only at h ⊢
  have ha := h.ap
  refine ⟨?_, ?_, ?_, ?_, by simp, ?_, by simp, by simp, by simp⟩
  · intro i j hij hj
    simp only [List.length_append, List.length_singleton] at hj
    simp only
    rw [getD_snoc, getD_snoc]
    by_cases h1 : j < F.length
    · rw [if_pos h1, if_pos (by omega)]; exact h.mono i j hij h1
    · rw [if_neg h1, if_pos (show j = F.length by omega)]
      by_cases h2 : i < F.length
      · rw [if_pos h2]; exact h.last i h2
      · rw [if_neg h2, if_pos (by omega)]; exact Nat.le_refl _
  · intro j hj
    simp only [List.length_append, List.length_singleton] at hj
    simp only
    rw [getD_snoc]
    by_cases h1 : j < F.length
    · rw [if_pos h1]; exact h.last j h1
    · rw [if_neg h1, if_pos (show j = F.length by omega)]; exact Nat.le_refl _
  · intro j hj
    simp only [List.length_append, List.length_singleton] at hj
    simp only
    rw [getD_snoc]
    by_cases h1 : j < F.length
    · rw [if_pos h1]; exact h.pos j h1
    · rw [if_neg h1, if_pos (show j = F.length by omega)]; exact ha
  · intro j hj
    simp only [List.length_append, List.length_singleton] at hj
    simp only
    rw [getD_snoc, if_pos (by omega)]; exact h.low j (by omega)
  · intro s hs
    simp only [List.getD, List.getElem?_replicate]
    split <;> simpa using hs
theorem mkT_bd (ws : List (List Nat)) (vs : List Nat) (m : Nat) (hw : ws.length ≤ 4096) (hv : vs.length ≤ 4096) (hm : m ≤ 64) : Bd (mkT ws vs m) := by
  have hl := lS_len ws (shr ws) m
  have hmul : m * ws.length ≤ 64 * 4096 := Nat.mul_le_mul hm hw
  have hk := mkT_bk ws vs m
  have hll : (mkT ws vs m).letters.length ≤ 1000000 := by show (lS ws (shr ws) m).1.length ≤ _; omega
  refine ⟨?_, hll, by show vs.length ≤ _; omega, ?_, ?_, by simp [mkT]⟩
  · show ((lS ws (shr ws) m).2.2 ++ [_]).length ≤ _
    simp; omega
  · intro j
    by_cases hj : j < (mkT ws vs m).firsts.length
    · have := hk.last j hj; omega
    · have : (mkT ws vs m).firsts.getD j 0 = 0 := by simp only [List.getD, List.getElem?_eq_none (Nat.le_of_not_lt hj)]; rfl
      omega
  · intro j
    show (List.replicate _ 0).getD j 0 ≤ _
    simp only [List.getD, List.getElem?_replicate]
    split <;> simp
theorem mkT_byt (ws : List (List Nat)) (vs : List Nat) (m : Nat) (hw : ∀ u ∈ ws, Byt u) (hm : m ≤ 64) : Byt (mkT ws vs m).letters ∧ Byt (mkT ws vs m).depths := lS_byt ws hw (shr ws) m (by omega)
theorem mkT_firsts (ws : List (List Nat)) (vs : List Nat) (m : Nat) : 2 ≤ (mkT ws vs m).firsts.length := by
  have := (lS_iv ws (shr ws) (shr_0 ws) m).1.ne
  show 2 ≤ ((lS ws (shr ws) m).2.2 ++ [_]).length
  simp; omega
theorem mkT_letters (ws : List (List Nat)) (vs : List Nat) (m : Nat) : 0 < (mkT ws vs m).letters.length := (lS_iv ws (shr ws) (shr_0 ws) m).1.ap
theorem tl_byt (s : ByteArray) : Byt (tl s) := fun x hx => by
  unfold tl at hx
  obtain ⟨b, _, rfl⟩ := List.mem_map.1 hx
  exact b.toNat_lt
/-- An own row of numbers is a slice of numbers. -/
theorem own_si {B e n : Nat} {k : IntKind} {v : Value} {l : List Nat} {w : World} (h : w.ownsRow B e 1 v n (ik k l).toList) (hn : n = l.length) : Si k v l w := by
  subst hn
  obtain ⟨_, ⟨h1, h2⟩ | ⟨g, cap, cur, h1, h2, h3, h4, h5, h6, h7⟩⟩ := h
  · exact .inl ⟨h1, List.length_eq_zero_iff.1 h2⟩
  · refine .inr ⟨g, 0, cap, h1, h4, h5, (Array.getElem?_eq_some_iff.1 h3).1, fun j hj => ?_⟩
    have := ik_get k l j hj
    rw [← Array.getElem?_toList, ← h7, List.getElem?_take_of_lt (by omega), Array.getElem?_toList] at this
    rw [Nat.zero_add]
    exact (cell_of_row w g _ _ _ _ h3).trans this
theorem own_sk {B e n g : Nat} {k : IntKind} {v : Value} {l : List Nat} {w : World} (h : w.ownsRow B e 1 v n (ik k l).toList) (hn : n = l.length) (hg : g < B) : Sk w.heap.size g k v l w :=
  ⟨own_si h hn, fun b hb => ⟨(h.lt b hb).2, by have := (h.lt b hb).1; omega⟩⟩
end Go.Proofs.Ytceaklefdahfkab
