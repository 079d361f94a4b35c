/- The sieve's table: how it lies, and what its small calls say. -/
import Derived.Test.YtceaklefdahfkabOvl
import Derived.Deep.RegionHeld3
import Derived.BigRegion
namespace Go.Proofs.Ytceaklefdahfkab
open Go.RowKit
/-- A slice of numbers of a kind. -/
def Si (k : IntKind) (v : Value) (l : List Nat) (w : World) : Prop :=
  (v = .slice none 0 0 ∧ l = []) ∨ ∃ b off cap, v = .slice (some ⟨b, off, none⟩) l.length cap ∧ l.length ≤ cap ∧ cap ≤ maxLen ∧ b < w.heap.size ∧ ∀ j, j < l.length → w.cell? ⟨b, off + j, none⟩ = some (.int k ((l.getD j 0 : Nat) : Int))
theorem Si.keep {k : IntKind} {v : Value} {d : List Nat} {w w' : World} (h : Si k v d w) (hs : w.heap.size ≤ w'.heap.size) (hb : ∀ g, v.ownBlock = some g → g < w.heap.size → w'.heap[g]? = w.heap[g]?) : Si k v d w' := by
  rcases h with h | ⟨b, off, cap, rfl, h2, h3, h5, h6⟩
  · exact .inl h
  · exact .inr ⟨b, off, cap, rfl, h2, h3, by omega, fun j hj => (World.cell?_of_block (w := w) (hb b rfl h5)).trans (h6 j hj)⟩
theorem Si.below {k : IntKind} {v : Value} {d : List Nat} {w w' : World} (h : Si k v d w) (hb : Below w.heap.size w w') : Si k v d w' := h.keep hb.size fun g _ hg => hb.block g hg
theorem Si.form {k : IntKind} {v : Value} {d : List Nat} {w : World} (h : Si k v d w) : ∃ o c, v = .slice o d.length c ∧ d.length ≤ c ∧ c ≤ 9223372036854775807 ∧ (0 < d.length → ∃ b off, o = some ⟨b, off, none⟩ ∧ b < w.heap.size ∧ ∀ j, j < d.length → w.cell? ⟨b, off + j, none⟩ = some (.int k ((d.getD j 0 : Nat) : Int))) := by
  rcases h with ⟨rfl, rfl⟩ | ⟨b, off, cap, rfl, h2, h3, h5, h6⟩
  · exact ⟨none, 0, rfl, Nat.le_refl _, by omega, fun h => by simp at h⟩
  · exact ⟨_, cap, rfl, h2, by unfold maxLen at h3; omega, fun _ => ⟨b, off, rfl, h5, h6⟩⟩
/-- A slice of rows of 256 numbers. -/
def Sr (v : Value) (rs : List (List Nat)) (w : World) : Prop :=
  (v = .slice none 0 0 ∧ rs = []) ∨ ∃ b off cap, v = .slice (some ⟨b, off, none⟩) rs.length cap ∧ rs.length ≤ cap ∧ cap ≤ maxLen ∧ b < w.heap.size ∧ ∀ j c, j < rs.length → c < 256 → w.cell? ⟨b, off + j * 256 + c, none⟩ = some (.int .i32 (((rs.getD j []).getD c 0 : Nat) : Int))
theorem Sr.keep {v : Value} {d : List (List Nat)} {w w' : World} (h : Sr v d w) (hs : w.heap.size ≤ w'.heap.size) (hb : ∀ g, v.ownBlock = some g → g < w.heap.size → w'.heap[g]? = w.heap[g]?) : Sr v d w' := by
  rcases h with h | ⟨b, off, cap, rfl, h2, h3, h5, h6⟩
  · exact .inl h
  · exact .inr ⟨b, off, cap, rfl, h2, h3, by omega, fun j c hj hc => (World.cell?_of_block (w := w) (hb b rfl h5)).trans (h6 j c hj hc)⟩
theorem Sr.below {v : Value} {d : List (List Nat)} {w w' : World} (h : Sr v d w) (hb : Below w.heap.size w w') : Sr v d w' := h.keep hb.size fun g _ hg => hb.block g hg
theorem Sr.form {v : Value} {d : List (List Nat)} {w : World} (h : Sr v d w) : ∃ o c, v = .slice o d.length c ∧ d.length ≤ 9223372036854775807 ∧ (0 < d.length → ∃ b off, o = some ⟨b, off, none⟩ ∧ b < w.heap.size ∧ ∀ j c, j < d.length → c < 256 → w.cell? ⟨b, off + j * 256 + c, none⟩ = some (.int .i32 (((d.getD j []).getD c 0 : Nat) : Int))) := by
  rcases h with ⟨rfl, rfl⟩ | ⟨b, off, cap, rfl, h2, h3, h5, h6⟩
  · exact ⟨none, 0, rfl, by simp, fun h => by simp at h⟩
  · exact ⟨_, cap, rfl, by unfold maxLen at h3; omega, fun _ => ⟨b, off, rfl, h5, h6⟩⟩
/-- The table, as numbers. -/
structure Tbl where
  width : Nat
  letters : List Nat
  depths : List Nat
  firsts : List Nat
  backs : List Nat
  rows : List (List Nat)
  values : List Nat
/-- The table, as it lies. -/
def Tab (g : Nat) (t : Tbl) (w : World) : Prop := ∃ vl vd vf vb vr vv, w.heap[g]? = some (.cells #[.int .i64 (t.width : Int), vl, vd, vf, vb, vr, vv] 100 (0, 0)) ∧
  Si .u8 vl t.letters w ∧ Si .u8 vd t.depths w ∧ Si .i32 vf t.firsts w ∧ Si .i32 vb t.backs w ∧ Sr vr t.rows w ∧ Si .i64 vv t.values w
theorem Tab.below {g : Nat} {t : Tbl} {w w' : World} (h : Tab g t w) (hb : Below w.heap.size w w') : Tab g t w' := by
  obtain ⟨vl, vd, vf, vb, vr, vv, h0, h1, h2, h3, h4, h5, h6⟩ := h
  exact ⟨vl, vd, vf, vb, vr, vv, (hb.block g (Array.getElem?_eq_some_iff.1 h0).1).trans h0, h1.below hb, h2.below hb, h3.below hb, h4.below hb, h5.below hb, h6.below hb⟩
/-- The numbers are small. -/
structure Bd (t : Tbl) : Prop where
  fl : t.firsts.length ≤ 1000000
  ll : t.letters.length ≤ 1000000
  vl : t.values.length ≤ 1000000
  f : ∀ j, t.firsts.getD j 0 ≤ 1000000
  b : ∀ j, t.backs.getD j 0 ≤ 1000000
  rl : t.rows.length ≤ 1000000
theorem parts_any (g : Nat) (t : Tbl) (h1 : 1 ≤ t.firsts.length) (w : World) (h : Tab g t w) :
    Calls Try.prog 79 #[.pointer (some ⟨g, 0, none⟩)] w fun e w' => e = .returned (.int .i64 ((t.firsts.length - 1 : Nat) : Int)) ∧ w' = w := by
  obtain ⟨vl, vd, vf, vb, vr, vv, h0, _, _, h3, _⟩ := h
  obtain ⟨o, c, rfl, hf1, hf2, _⟩ := h3.form
  have c3 : w.cell? ⟨g, 3, none⟩ = some (.slice o t.firsts.length c) := (cell_of_row w g 3 _ _ _ h0).trans rfl
  have e1 : (t.firsts.length : Int) - 1 = ((t.firsts.length - 1 : Nat) : Int) := by omega
  have hw : IntKind.i64.wrap ((t.firsts.length : Int) - 1) = ((t.firsts.length - 1 : Nat) : Int) := by rw [wi _ (by unfold I64; omega)]; exact e1
  clear h0 h3 e1
  generalize t.firsts.length - 1 = n at hw ⊢
  go_enter Try.func79, Try.ntmps79
  go_wp2
  go_ret
  exact ⟨rfl, rfl⟩
/-- What a state stands for. -/
def wdV (t : Tbl) (s : Nat) : Value := if t.firsts.length - 1 ≤ s then .tuple #[.int .i64 ((t.values.getD (s - (t.firsts.length - 1)) 0 : Nat) : Int), .bool true] else .tuple #[.int .i64 0, .bool false]
theorem word_any (g : Nat) (t : Tbl) (h1 : 1 ≤ t.firsts.length) (hb : Bd t) (s : Nat) (hs : s ≤ 1000000) (hv : t.firsts.length - 1 ≤ s → s - (t.firsts.length - 1) < t.values.length) (w : World) (h : Tab g t w) :
    Calls Try.prog 56 #[.pointer (some ⟨g, 0, none⟩), .int .i32 (s : Int)] w fun e w' => e = .returned (wdV t s) ∧ w' = w := by
  have CP : Hid (Calls Try.prog 79 #[.pointer (some ⟨g, 0, none⟩)] w fun e w' => e = .returned (.int .i64 ((t.firsts.length - 1 : Nat) : Int)) ∧ w' = w) := parts_any g t h1 w h
  obtain ⟨vl, vd, vf, vb, vr, vv, h0, _, _, _, _, _, h6⟩ := h
  obtain ⟨o, c, rfl, _, _, hvv⟩ := h6.form
  have c6 : w.cell? ⟨g, 6, none⟩ = some (.slice o t.values.length c) := (cell_of_row w g 6 _ _ _ h0).trans rfl
  have hbf := hb.fl
  clear h0 h6
  obtain ⟨p, hp⟩ : ∃ p, p = t.firsts.length - 1 := ⟨_, rfl⟩
  unfold wdV
  rw [← hp] at CP hv ⊢
  have hp1 : p ≤ 1000000 := by omega
  clear hp
  by_cases hps : p ≤ s
  · rw [if_pos hps]
    have hq := hv hps
    obtain ⟨q, hq1⟩ : ∃ q, q = s - p := ⟨_, rfl⟩
    rw [← hq1] at hq ⊢
    have e1 : (s : Int) - (p : Int) = (q : Int) := by omega
    have hq0 : (0 : Int) ≤ (q : Int) := by omega
    have hq2 : (q : Int) < (t.values.length : Int) := by omega
    have hw : IntKind.i64.wrap ((s : Int) - (p : Int)) = (q : Int) := by rw [wi _ (by unfold I64; omega)]; exact e1
    obtain ⟨b, off, rfl, _, hc⟩ := hvv (by omega)
    have cq := hc q hq
    generalize t.values.getD q 0 = x at cq ⊢
    clear hc hvv hq1 hv e1
    go_enter Try.func56, Try.ntmps56
    go_wp2_with fail
    refine Calls.mono CP.out ?_
    rintro e w' ⟨rfl, rfl⟩
    go_wp2
    go_ret2
    exact ⟨rfl, rfl⟩
  · rw [if_neg hps]
    have hq0 : (s : Int) - (p : Int) < 0 := by omega
    have hw : IntKind.i64.wrap ((s : Int) - (p : Int)) = (s : Int) - (p : Int) := by rw [wi _ (by unfold I64; omega)]
    clear hvv hv
    go_enter Try.func56, Try.ntmps56
    go_wp2_with fail
    refine Calls.mono CP.out ?_
    rintro e w' ⟨rfl, rfl⟩
    go_wp2
    go_ret2
    exact ⟨rfl, rfl⟩
end Go.Proofs.Ytceaklefdahfkab
