/- The sieve's table: what layBacks keeps. -/
import Derived.Test.YtceaklefdahfkabSv11
namespace Go.Proofs.Ytceaklefdahfkab
open Go.RowKit
/-- What holds while the backs are laid. -/
structure Bk (t : Tbl) : Prop where
  mono : ∀ i j, i ≤ j → j < t.firsts.length → t.firsts.getD i 0 ≤ t.firsts.getD j 0
  last : ∀ j, j < t.firsts.length → t.firsts.getD j 0 ≤ t.letters.length
  pos : ∀ j, j < t.firsts.length → 1 ≤ t.firsts.getD j 0
  low : ∀ j, j + 1 < t.firsts.length → j < t.firsts.getD j 0
  bl : t.backs.length = t.letters.length
  bs : ∀ s, 0 < s → t.backs.getD s 0 < s
  rl : ∀ j, j < t.rows.length → (t.rows.getD j []).length = 256
  rv : ∀ j c, j < t.rows.length → (t.rows.getD j []).getD c 0 < t.firsts.getD (j + 1) 0
  rp : t.rows.length ≤ t.firsts.length - 1
theorem Bk.nw {t : Tbl} (h : Bk t) {s : Nat} (h0 : 0 < s) (hs : s + 1 < t.firsts.length) : Nw t s :=
  ⟨hs, h.mono _ _ (by omega) hs, h.last _ hs, by rw [h.bl]; exact Nat.lt_of_lt_of_le (h.low s hs) (h.last s (by omega)), h.bs s h0⟩
theorem Bk.nx_lt {t : Tbl} (h : Bk t) (h0 : 0 < t.rows.length) (c : Nat) : ∀ f s, s < f → s + 1 < t.firsts.length → nx t c f s < t.firsts.getD (s + 1) 0
  | 0, s, hf, _ => by omega
  | f + 1, s, hf, hs => by
    rw [nx]
    split
    · next h1 => exact h.rv s c h1
    · next h1 =>
      have hn := h.nw (s := s) (by omega) hs
      split
      · next h2 =>
        have := seg_len hn
        omega
      · have hb := hn.bs
        have ih := Bk.nx_lt h h0 c f (t.backs.getD s 0) (by omega) (by omega)
        have := h.mono (t.backs.getD s 0 + 1) (s + 1) (by omega) hs
        omega
theorem rwl_lt (t : Tbl) (f n : Nat) (r : List Nat) (hr : ∀ c, r.getD c 0 < n) : ∀ k, f + k ≤ n → ∀ c, (rwl t f r k).getD c 0 < n
  | 0, _, c => hr c
  | k + 1, hk, c => by
    rw [rwl]
    have ih := rwl_lt t f n r hr k (by omega) c
    simp only [List.getD, List.getElem?_set] at ih ⊢
    split
    · split
      · simp; omega
      · simp; omega
    · exact ih
theorem Bk.rw0_len {t : Tbl} (h : Bk t) {s : Nat} (hb : 0 < s → t.backs.getD s 0 < t.rows.length) : (rw0 t s).length = 256 := by
  unfold rw0
  split
  · next h0 => exact h.rl _ (hb h0)
  · simp only [List.length_replicate]
theorem Bk.rwO_len {t : Tbl} (h : Bk t) {s : Nat} (hb : 0 < s → t.backs.getD s 0 < t.rows.length) : (rwO t s).length = 256 := by rw [rwO, rwl_len, h.rw0_len hb]
theorem Bk.rwO_lt {t : Tbl} (h : Bk t) {s : Nat} (hs : s + 1 < t.firsts.length) (hb : 0 < s → t.backs.getD s 0 < t.rows.length) (c : Nat) : (rwO t s).getD c 0 < t.firsts.getD (s + 1) 0 := by
  have h1 := h.mono s (s + 1) (by omega) hs
  refine rwl_lt t _ _ _ ?_ _ (by omega) c
  intro c
  unfold rw0
  split
  · next h0 =>
    have := h.rv _ c (hb h0)
    have h2 := h.mono (t.backs.getD s 0 + 1) (s + 1) (by have := h.bs s h0; omega) hs
    omega
  · have h3 := h.pos (s + 1) hs
    have : (List.replicate 256 0).getD c 0 = 0 := by
      simp only [List.getD, List.getElem?_replicate]
      split <;> rfl
    omega
/-- A state's row, if there is room. -/
def lbR (t : Tbl) (s : Nat) : Tbl := if t.rows.length < 64 then { t with rows := t.rows ++ [rwO t s] } else t
/-- The first followers' backs. -/
def lbF (t : Tbl) (s : Nat) : Nat → Tbl
  | 0 => t
  | k + 1 => { lbF t s k with backs := (lbF t s k).backs.set (t.firsts.getD s 0 + k) (nx (lbF t s k) (t.letters.getD (t.firsts.getD s 0 + k) 0) ((lbF t s k).backs.getD s 0 + 1) ((lbF t s k).backs.getD s 0)) }
/-- The first states. -/
def lbS (t : Tbl) : Nat → Tbl
  | 0 => t
  | s + 1 => if s = 0 then lbR (lbS t s) s else lbF (lbR (lbS t s) s) s ((lbR (lbS t s) s).firsts.getD (s + 1) 0 - (lbR (lbS t s) s).firsts.getD s 0)
theorem Bk.lbR {t : Tbl} (h : Bk t) {s : Nat} (hs : s + 1 < t.firsts.length) (hr : t.rows.length = min s 64) : Bk (lbR t s) := by
  unfold Ytceaklefdahfkab.lbR
  split
  · next h1 =>
    have e : t.rows.length = s := by omega
    have hb : 0 < s → t.backs.getD s 0 < t.rows.length := fun h0 => by rw [e]; exact h.bs s h0
    have g : ∀ j, j < t.rows.length → (t.rows ++ [rwO t s]).getD j [] = t.rows.getD j [] := fun j hj => by simp [List.getD, List.getElem?_append_left hj]
    have g' : (t.rows ++ [rwO t s]).getD s [] = rwO t s := by rw [← e]; simp [List.getD]
    refine ⟨h.mono, h.last, h.pos, h.low, h.bl, h.bs, ?_, ?_, ?_⟩
    · intro j hj
      simp only [List.length_append, List.length_singleton] at hj
      by_cases hj2 : j < t.rows.length
      · show ((t.rows ++ [rwO t s]).getD j []).length = 256
        rw [g j hj2]; exact h.rl j hj2
      · have : j = s := by omega
        subst this
        show ((t.rows ++ [rwO t j]).getD j []).length = 256
        rw [g']; exact h.rwO_len hb
    · intro j c hj
      simp only [List.length_append, List.length_singleton] at hj
      by_cases hj2 : j < t.rows.length
      · show ((t.rows ++ [rwO t s]).getD j []).getD c 0 < _
        rw [g j hj2]; exact h.rv j c hj2
      · have : j = s := by omega
        subst this
        show ((t.rows ++ [rwO t j]).getD j []).getD c 0 < _
        rw [g']; exact h.rwO_lt hs hb c
    · simp only [List.length_append, List.length_singleton]; omega
  · exact h
theorem lbF_same (t : Tbl) (s : Nat) : ∀ k, (lbF t s k).firsts = t.firsts ∧ (lbF t s k).letters = t.letters ∧ (lbF t s k).rows = t.rows ∧ (lbF t s k).width = t.width ∧ (lbF t s k).depths = t.depths ∧ (lbF t s k).values = t.values
  | 0 => ⟨rfl, rfl, rfl, rfl, rfl, rfl⟩
  | k + 1 => lbF_same t s k
theorem Bk.lbF {t : Tbl} (h : Bk t) (h0 : 0 < t.rows.length) {s : Nat} (hs0 : 0 < s) (hs : s + 1 < t.firsts.length) : ∀ k, t.firsts.getD s 0 + k ≤ t.firsts.getD (s + 1) 0 → Bk (lbF t s k)
  | 0, _ => h
  | k + 1, hk => by
    have ih := Bk.lbF h h0 hs0 hs k (by omega)
    obtain ⟨e1, e2, e3, _⟩ := lbF_same t s k
    have hb := ih.bs s hs0
    have hn := ih.nx_lt (by rw [e3]; exact h0) (t.letters.getD (t.firsts.getD s 0 + k) 0) ((Ytceaklefdahfkab.lbF t s k).backs.getD s 0 + 1) ((Ytceaklefdahfkab.lbF t s k).backs.getD s 0) (by omega) (by rw [e1]; omega)
    have hm := h.mono ((Ytceaklefdahfkab.lbF t s k).backs.getD s 0 + 1) s (by omega) (by omega)
    rw [e1] at hn
    refine ⟨ih.mono, ih.last, ih.pos, ih.low, ?_, ?_, ih.rl, ih.rv, ih.rp⟩
    · rw [Ytceaklefdahfkab.lbF]
      show (List.set _ _ _).length = _
      rw [List.length_set]; exact ih.bl
    · intro j hj
      rw [Ytceaklefdahfkab.lbF]
      show (List.set _ _ _).getD j 0 < j
      have hj2 := ih.bs j hj
      simp only [List.getD, List.getElem?_set] at hj2 hn hm ⊢
      split
      · split
        · next e _ => simp only [Option.getD_some]; omega
        · simpa using hj
      · exact hj2
end Go.Proofs.Ytceaklefdahfkab
