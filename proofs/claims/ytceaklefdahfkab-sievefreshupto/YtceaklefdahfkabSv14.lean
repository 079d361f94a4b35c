/- The sieve's table: layBacks. -/
import Derived.Test.YtceaklefdahfkabSv13
import Derived.Deep.RegionWith
namespace Go.Proofs.Ytceaklefdahfkab
open Go.RowKit
/-- The sizes of the lists that do not change, and of the backs. -/
theorem bd_lbR {t : Tbl} (h : Bd t) (s : Nat) : Bd (lbR t s) := by
  unfold lbR
  split
  · next h1 => exact ⟨h.fl, h.ll, h.vl, h.f, h.b, by simp only [List.length_append, List.length_singleton]; omega⟩
  · exact h
theorem bd_lbF {t : Tbl} (hk : Bk t) (h : Bd t) (h0 : 0 < t.rows.length) {s : Nat} (hs0 : 0 < s) (hs : s + 1 < t.firsts.length) : ∀ k, t.firsts.getD s 0 + k ≤ t.firsts.getD (s + 1) 0 → Bd (lbF t s k)
  | 0, _ => h
  | k + 1, hkk => by
    have ih := bd_lbF hk h h0 hs0 hs k (by omega)
    have ihk := hk.lbF h0 hs0 hs k (by omega)
    obtain ⟨e1, e2, e3, _⟩ := lbF_same t s k
    have hb := ihk.bs s hs0
    have hn := ihk.nx_lt (by rw [e3]; exact h0) (t.letters.getD (t.firsts.getD s 0 + k) 0) ((lbF t s k).backs.getD s 0 + 1) ((lbF t s k).backs.getD s 0) (by omega) (by rw [e1]; omega)
    have hf := ih.f ((lbF t s k).backs.getD s 0 + 1)
    refine ⟨ih.fl, ih.ll, ih.vl, ih.f, ?_, ih.rl⟩
    intro j
    have hj := ih.b j
    rw [lbF]
    show (List.set _ _ _).getD j 0 ≤ 1000000
    simp only [List.getD, List.getElem?_set] at hj hn hf ⊢
    split
    · split
      · simp only [Option.getD_some]; omega
      · simp
    · exact hj
theorem lbR_same (t : Tbl) (s : Nat) : (lbR t s).firsts = t.firsts ∧ (lbR t s).letters = t.letters ∧ (lbR t s).width = t.width ∧ (lbR t s).depths = t.depths ∧ (lbR t s).values = t.values ∧ (lbR t s).backs = t.backs := by
  unfold lbR; split <;> exact ⟨rfl, rfl, rfl, rfl, rfl, rfl⟩
theorem lbR_rows (t : Tbl) (s : Nat) (h : t.rows.length = min s 64) : (lbR t s).rows.length = min (s + 1) 64 := by
  unfold lbR
  split
  · simp only [List.length_append, List.length_singleton]; omega
  · omega
theorem lbS_same (t : Tbl) : ∀ s, (lbS t s).firsts = t.firsts ∧ (lbS t s).letters = t.letters ∧ (lbS t s).width = t.width ∧ (lbS t s).depths = t.depths ∧ (lbS t s).values = t.values
  | 0 => ⟨rfl, rfl, rfl, rfl, rfl⟩
  | s + 1 => by
    obtain ⟨a1, a2, a3, a4, a5⟩ := lbS_same t s
    obtain ⟨b1, b2, b3, b4, b5, _⟩ := lbR_same (lbS t s) s
    rw [lbS]
    split
    · exact ⟨b1.trans a1, b2.trans a2, b3.trans a3, b4.trans a4, b5.trans a5⟩
    · obtain ⟨c1, c2, c3, c4, c5, c6⟩ := lbF_same (lbR (lbS t s) s) s ((lbR (lbS t s) s).firsts.getD (s + 1) 0 - (lbR (lbS t s) s).firsts.getD s 0)
      exact ⟨c1.trans (b1.trans a1), c2.trans (b2.trans a2), c4.trans (b3.trans a3), c5.trans (b4.trans a4), c6.trans (b5.trans a5)⟩
/-- All that holds of the table behind the first states. -/
theorem lbS_ok (t : Tbl) (hk : Bk t) (hd : Bd t) (hr : t.rows = []) : ∀ s, s + 1 ≤ t.firsts.length → Bk (lbS t s) ∧ Bd (lbS t s) ∧ (lbS t s).rows.length = min s 64
  | 0, _ => ⟨hk, hd, by rw [lbS, hr]; rfl⟩
  | s + 1, hs => by
    obtain ⟨k1, d1, r1⟩ := lbS_ok t hk hd hr s (by omega)
    obtain ⟨a1, _⟩ := lbS_same t s
    obtain ⟨b1, _⟩ := lbR_same (lbS t s) s
    have k2 := k1.lbR (s := s) (by rw [a1]; omega) r1
    have d2 := bd_lbR d1 s
    have r2 := lbR_rows _ s r1
    rw [lbS]
    split
    · exact ⟨k2, d2, r2⟩
    · have hs1 : s + 1 < (lbR (lbS t s) s).firsts.length := by rw [b1, a1]; omega
      have hle : (lbR (lbS t s) s).firsts.getD s 0 + ((lbR (lbS t s) s).firsts.getD (s + 1) 0 - (lbR (lbS t s) s).firsts.getD s 0) ≤ (lbR (lbS t s) s).firsts.getD (s + 1) 0 := by
        have := k2.mono s (s + 1) (by omega) hs1
        omega
      refine ⟨k2.lbF (by omega) (by omega) hs1 _ hle, bd_lbF k2 d2 (by omega) (by omega) hs1 _ hle, ?_⟩
      rw [(lbF_same _ _ _).2.2.1]; exact r2
end Go.Proofs.Ytceaklefdahfkab
