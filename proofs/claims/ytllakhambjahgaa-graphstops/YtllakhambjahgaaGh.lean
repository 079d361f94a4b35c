/- Graphs: lists of needs as edges. -/
import Derived.Test.YtllakhambjahgaaGg
namespace Go.Proofs.Ytllakhambjahgaa
open Go.RowKit GM
theorem zE_snoc (A : List (Nat × Nat)) (x y : Nat) : zE (A ++ [(x, y)]) = zE A ++ [((x : Int), (y : Int))] := by simp [zE]
/-- A graph in the making. -/
structure Gst (w : World) (N : Nat) (A : List (Nat × Nat)) (ev : Value) (W : World) : Prop where
  bel : Below w.heap.size w W
  res : W.heap[w.heap.size]? = some (.cells #[.int .i64 0, .slice none 0 0] 25 (0, 0))
  loc : W.heap[w.heap.size + 1]? = some (.cells #[.int .i64 (N : Int), ev] 25 (0, 0))
  own : W.ownsRow (w.heap.size + 2) 32 2 ev A.length (ec (zE A))
theorem Gst.add {w : World} {N : Nat} {A : List (Nat × Nat)} {ev : Value} {W : World} (h : Gst w N A ev W) (x y : Nat) (hb : A.length + 1 ≤ 4398046511104) :
    ∃ o c W2, (apE 22 #[ev, .slice (some ⟨W.heap.size, 0, none⟩) 1 1]).run Try.prog (W.alloc (.cells #[.int .i64 (x : Int), .int .i64 (y : Int)] 32)) = .ok (.slice o (A.length + 1) c) W2 ∧ W2.cell? ⟨w.heap.size + 1, 1, none⟩ = some ev ∧ W2.frozen? ⟨w.heap.size + 1, 1, none⟩ = false ∧ Gst w N (A ++ [(x, y)]) (.slice o (A.length + 1) c) (W2.setCell ⟨w.heap.size + 1, 1, none⟩ (.slice o (A.length + 1) c)) := by
  have hz : w.heap.size + 1 < W.heap.size := (Array.getElem?_eq_some_iff.1 h.loc).1
  obtain ⟨v', W2, hr, ho, hg⟩ := run_apE1 W (w.heap.size + 2) A.length 22 ev (zE A) (x : Int) (y : Int) h.own hb (by omega)
  obtain ⟨o, c, rfl⟩ := own_size ho
  have old : ∀ k, k < w.heap.size + 2 → W2.heap[k]? = W.heap[k]? := fun k hk => grown_oldR hg k (by omega) (fun e => by have := (h.own.lt k e).1; omega)
  have l2 := (old (w.heap.size + 1) (by omega)).trans h.loc
  have hne : ∀ k, k ≠ w.heap.size + 1 → (W2.setCell ⟨w.heap.size + 1, 1, none⟩ (.slice o (A.length + 1) c)).heap[k]? = W2.heap[k]? := fun k hk => heap_setCell_other _ _ _ _ hk
  have bl := below_grown ((Below.refl _ W).alloc (B := w.heap.size + 2) (by omega) (.cells #[.int .i64 (x : Int), .int .i64 (y : Int)] 32)) hg (by simp; omega) (fun g e => (h.own.lt g e).1)
  refine ⟨o, c, W2, hr, (cell_of_row _ _ _ _ _ _ l2).trans rfl, frozen_of_row _ _ _ _ _ l2, ⟨?_, ?_, ?_, ?_⟩⟩
  · have q := h.bel.trans (bl.mono (by omega))
    exact ⟨q.os, q.tape, q.output, by simpa [World.setCell] using q.size, fun j hj => (hne j (by omega)).trans (q.block j hj)⟩
  · exact (hne _ (by omega)).trans ((old _ (by omega)).trans h.res)
  · exact (heap_setCell_same _ _ _ _ _ _ l2).trans rfl
  · rw [List.length_append, List.length_singleton, zE_snoc]
    exact own_keep2 ho fun k hk => hne k (by have := (ho.lt k hk).1; omega)
/-- The edges while a list is gone over. -/
def edS (L : Nat → List Nat) (k j : Nat) : List (Nat × Nat) := edg L k ++ ((L k).take j).map fun b => (k, b)
theorem edS_zero (L : Nat → List Nat) (k : Nat) : edS L k 0 = edg L k := by simp [edS]
theorem edS_succ (L : Nat → List Nat) (k j y : Nat) (h : (L k)[j]? = some y) : edS L k (j + 1) = edS L k j ++ [(k, y)] := by
  unfold edS
  rw [List.take_add_one, h]
  simp
theorem edS_end (L : Nat → List Nat) (k : Nat) : edS L k (L k).length = edg L (k + 1) := by
  unfold edS
  rw [List.take_length, edg_succ]
theorem edg_le (L : Nat → List Nat) {k n : Nat} (h : k ≤ n) : (edg L k).length ≤ (edg L n).length := by
  induction n with
  | zero => have : k = 0 := by omega
            rw [this]; exact Nat.le_refl _
  | succ n ih =>
    by_cases hk : k = n + 1
    · rw [hk]; exact Nat.le_refl _
    · rw [edg_succ, List.length_append]; have := ih (by omega); omega
theorem edS_le (L : Nat → List Nat) {k j n : Nat} (h : k < n) : (edS L k j).length ≤ (edg L n).length := by
  have h1 := edg_le L (k := k + 1) (n := n) h
  rw [← edS_end] at h1
  refine Nat.le_trans ?_ h1
  unfold edS
  simp
  omega
attribute [local go_sem ↓] toApE
end Go.Proofs.Ytllakhambjahgaa
