/- Graphs: Check, the code's and the document's. -/
import Derived.Test.YtgedmfcfhdfoeaaGa
namespace Go.Proofs.Ytgedmfcfhdfoeaa
open Go.RowKit
/-- A slice of edges. -/
def El (v : Value) (l : List (Int × Int)) (w : World) : Prop :=
  (v = .slice none 0 0 ∧ l = []) ∨ ∃ b off cap, v = .slice (some ⟨b, off, none⟩) l.length cap ∧ l.length ≤ cap ∧ cap ≤ maxLen ∧ b < w.heap.size ∧
    ∀ j, j < l.length → w.cell? ⟨b, off + j * 2, none⟩ = some (.int .i64 (l.getD j (0, 0)).1) ∧ w.cell? ⟨b, off + j * 2 + 1, none⟩ = some (.int .i64 (l.getD j (0, 0)).2)
theorem El.keep {v : Value} {d : List (Int × Int)} {w w' : World} (h : El v d w) (hs : w.heap.size ≤ w'.heap.size) (hb : ∀ g, v.ownBlock = some g → g < w.heap.size → w'.heap[g]? = w.heap[g]?) : El v d w' := by
  rcases h with h | ⟨b, off, cap, rfl, h2, h3, h5, h6⟩
  · exact .inl h
  · exact .inr ⟨b, off, cap, rfl, h2, h3, by omega, fun j hj => ⟨(World.cell?_of_block (w := w) (hb b rfl h5)).trans (h6 j hj).1, (World.cell?_of_block (w := w) (hb b rfl h5)).trans (h6 j hj).2⟩⟩
theorem El.below {v : Value} {d : List (Int × Int)} {w w' : World} (h : El v d w) (hb : Below w.heap.size w w') : El v d w' := h.keep hb.size fun g _ hg => hb.block g hg
theorem El.form {v : Value} {d : List (Int × Int)} {w : World} (h : El v d w) : ∃ o c, v = .slice o d.length c ∧ d.length ≤ 9223372036854775807 ∧ (0 < d.length → ∃ b off, o = some ⟨b, off, none⟩ ∧ b < w.heap.size ∧
    ∀ j, j < d.length → w.cell? ⟨b, off + j * 2, none⟩ = some (.int .i64 (d.getD j (0, 0)).1) ∧ w.cell? ⟨b, off + j * 2 + 1, none⟩ = some (.int .i64 (d.getD j (0, 0)).2)) := by
  rcases h with ⟨rfl, rfl⟩ | ⟨b, off, cap, rfl, h2, h3, h5, h6⟩
  · exact ⟨none, 0, rfl, by simp, fun h => by simp at h⟩
  · exact ⟨_, cap, rfl, by unfold maxLen at h3; omega, fun _ => ⟨b, off, rfl, h5, h6⟩⟩
/-- A graph, as a value. -/
def grV (N : Int) (v : Value) : Value := .agg #[.int .i64 N, v]
def okE (N : Int) (e : Int × Int) : Bool := decide (0 ≤ e.1 ∧ e.1 < N ∧ 0 ≤ e.2 ∧ e.2 < N)
def badF (N : Int) : List (Int × Int) → Nat → Option Nat
  | [], _ => none
  | e :: r, i => if okE N e then badF N r (i + 1) else some i
def edgV : Option Nat → Nat × Nat
  | some i => (80, i)
  | none => (0, 0)
/-- What Check answers. -/
def chk (N : Int) (E : List (Int × Int)) : Nat × Nat :=
  if N < 0 ∨ 8192 < N then (2, 0) else if 1048576 < E.length then (1, 0) else edgV (badF N E 0)
theorem badF_drop (N : Int) (E : List (Int × Int)) (k : Nat) (h : k < E.length) : badF N (E.drop k) k = if okE N (E.getD k (0, 0)) then badF N (E.drop (k + 1)) (k + 1) else some k := by
  rw [List.drop_eq_getElem_cons h, badF]
  simp [List.getD, h]
set_option maxRecDepth 100000 in
theorem isNode_any (N x : Int) (v : Value) (w : World) :
    Calls Try.prog 60 #[grV N v, .int .i64 x] w fun e w' => e = .returned (.bool (decide (0 ≤ x) && decide (x < N))) ∧ Below w.heap.size w w' := by
  unfold grV
  have hb : Below w.heap.size w (w.alloc (.cells #[.int .i64 N, v] 24)) := (Below.refl _ w).alloc (Nat.le_refl _) _
  by_cases h : 0 ≤ x
  · rw [decide_eq_true h, Bool.true_and]
    go_enter Try.func60, Try.ntmps60
    go_wp2
    go_ret
    exact ⟨rfl, hb⟩
  · have h' : ¬ (0 ≤ x) := h
    have hd : decide (0 ≤ x) = false := decide_eq_false h
    rw [hd, Bool.false_and]
    go_enter Try.func60, Try.ntmps60
    go_wp2
    go_ret
    exact ⟨rfl, hb⟩
set_option maxRecDepth 100000 in
set_option maxHeartbeats 1000000 in
theorem check_any (N : Int) (E : List (Int × Int)) (v : Value) (w : World) (hv : El v E w) :
    Calls Try.prog 59 #[grV N v] w fun e w' => e = .returned (.tuple #[.int .i64 ((chk N E).1 : Int), .int .i64 ((chk N E).2 : Int)]) ∧ Below w.heap.size w w' := by
  obtain ⟨o, c, rfl, hl, ho⟩ := hv.form
  have hb : Below w.heap.size w (w.alloc (.cells #[.int .i64 N, .slice o E.length c] 24)) := (Below.refl _ w).alloc (Nat.le_refl _) _
  unfold grV
  clear hv
  by_cases h1 : N < 0
  · have e1 : chk N E = (2, 0) := by unfold chk; rw [if_pos (.inl h1)]
    rw [e1]
    go_enter Try.func59, Try.ntmps59
    go_wp2
    go_ret2
    exact ⟨rfl, hb⟩
  by_cases h2 : 8192 < N
  · have e1 : chk N E = (2, 0) := by unfold chk; rw [if_pos (.inr h2)]
    rw [e1]
    go_enter Try.func59, Try.ntmps59
    go_wp2
    go_ret2
    exact ⟨rfl, hb⟩
  by_cases h3 : 1048576 < E.length
  · have e1 : chk N E = (1, 0) := by unfold chk; rw [if_neg (by omega), if_pos h3]
    rw [e1]
    have h3' : (1048576 : Int) < (E.length : Int) := by omega
    go_enter Try.func59, Try.ntmps59
    go_wp2
    go_ret2
    exact ⟨rfl, hb⟩
  have HC : Hid (chk N E = edgV (badF N E 0)) := by show chk N E = _; unfold chk; rw [if_neg (by omega), if_neg h3]
  have h3' : ¬ (1048576 : Int) < (E.length : Int) := by omega
  have HB : Hid (Below w.heap.size w (w.alloc (.cells #[.int .i64 N, .slice o E.length c] 24)) ∧ (w.alloc (.cells #[.int .i64 N, .slice o E.length c] 24)).heap[w.heap.size]? = some (.cells #[.int .i64 N, .slice o E.length c] 24 (0, 0))) := ⟨hb, heap_alloc_new _ _⟩
  clear hb
  go_enter Try.func59, Try.ntmps59
  go_wp2_with fail
  go_loopw [21] (fun i wr => ∃ k : Nat, i = .int .i64 (k : Int) ∧ k ≤ E.length ∧ Hid (badF N E 0 = badF N (E.drop k) k) ∧ Hid (Below w.heap.size w wr ∧ wr.heap[w.heap.size]? = some (.cells #[.int .i64 N, .slice o E.length c] 24 (0, 0)))) (fun i _ => E.length - (intOf i).toNat)
  case atStart => exact ⟨0, rfl, Nat.zero_le _, rfl, HB⟩
  case round =>
    clear HB
    obtain ⟨k, rfl, hk, HO, HR⟩ := hrel
    by_cases hlt : k < E.length
    · obtain ⟨b, off, rfl, hbb, hc⟩ := ho (by omega)
      have hk1 : (k : Int) < (E.length : Int) := by omega
      have hk0 : (0 : Int) ≤ (k : Int) := by omega
      have hk2 : (k : Int) + 1 < 9223372036854775808 := by omega
      have c1 := (World.cell?_of_block (w := w) (HR.out.1.block b hbb)).trans (hc k hlt).1
      have c2 := (World.cell?_of_block (w := w) (HR.out.1.block b hbb)).trans (hc k hlt).2
      have r0 : wr.cell? ⟨w.heap.size, 0, none⟩ = some (.int .i64 N) := (cell_of_row _ _ _ _ _ _ HR.out.2).trans rfl
      have r1 : wr.cell? ⟨w.heap.size, 1, none⟩ = some (.slice (some ⟨b, off, none⟩) E.length c) := (cell_of_row _ _ _ _ _ _ HR.out.2).trans rfl
      have HS : Hid (badF N E 0 = if okE N (E.getD k (0, 0)) then badF N (E.drop (k + 1)) (k + 1) else some k) := by show _ = _; rw [HO.out, badF_drop N E k hlt]
      unfold okE at HS
      revert c1 c2 HS
      generalize (E.getD k (0, 0)).1 = x1, (E.getD k (0, 0)).2 = x2
      intro c1 c2 HS
      have ld : Hid (∀ X, Below wr.heap.size wr X → X.cell? ⟨w.heap.size, 0, none⟩ = some (.int .i64 N) ∧ X.cell? ⟨w.heap.size, 1, none⟩ = some (.slice (some ⟨b, off, none⟩) E.length c)) := fun X h => ⟨(World.cell?_of_block (w := wr) (h.block _ (Array.getElem?_eq_some_iff.1 HR.out.2).1)).trans r0, (World.cell?_of_block (w := wr) (h.block _ (Array.getElem?_eq_some_iff.1 HR.out.2).1)).trans r1⟩
      have HX : Hid (0 ≤ N ∧ N ≤ 8192 ∧ E.length ≤ 1048576) := ⟨by omega, by omega, by omega⟩
      have hz : w.heap.size < wr.heap.size := (Array.getElem?_eq_some_iff.1 HR.out.2).1
      clear ho hc hl h3 h3' h1 h2 hbb HO hk
      obtain ⟨W0, hW0⟩ : ∃ W0, W0 = wr.alloc (.cells #[.int .i64 x1, .int .i64 x2] 52) := ⟨_, rfl⟩
      have B0 : Below wr.heap.size wr W0 := by rw [hW0]; exact (Below.refl _ wr).alloc (Nat.le_refl _) _
      have R0 : W0.heap[wr.heap.size]? = some (.cells #[.int .i64 x1, .int .i64 x2] 52 (0, 0)) := by rw [hW0]; exact heap_alloc_new _ _
      have H0 : Hid (Below wr.heap.size wr W0 ∧ W0.heap[wr.heap.size]? = some (.cells #[.int .i64 x1, .int .i64 x2] 52 (0, 0))) := ⟨B0, R0⟩
      have HW : Hid (wr.alloc (.cells #[.int .i64 x1, .int .i64 x2] 52) = W0) := hW0.symm
      obtain ⟨p, hp⟩ : ∃ p, p = (decide (0 ≤ x1) && decide (x1 < N)) := ⟨_, rfl⟩
      obtain ⟨q, hq⟩ : ∃ q, q = (decide (0 ≤ x2) && decide (x2 < N)) := ⟨_, rfl⟩
      have C1 := isNode_any N x1 (.slice (some ⟨b, off, none⟩) E.length c) W0
      rw [← hp] at C1
      have C2 : Hid (∀ X, Calls Try.prog 60 #[.agg #[.int .i64 N, .slice (some ⟨b, off, none⟩) E.length c], .int .i64 x2] X fun e w' => e = .returned (.bool q) ∧ Below X.heap.size X w') := fun X => by rw [hq]; exact isNode_any N x2 _ X
      have HC1 : Hid (Calls Try.prog 60 #[.agg #[.int .i64 N, .slice (some ⟨b, off, none⟩) E.length c], .int .i64 x1] W0 fun e w' => e = .returned (.bool p) ∧ Below W0.heap.size W0 w') := C1
      have HS2 : Hid (badF N E 0 = if (p && q) = true then badF N (E.drop (k + 1)) (k + 1) else some k) := by
        have e1 : decide (0 ≤ x1 ∧ x1 < N ∧ 0 ≤ x2 ∧ x2 < N) = (p && q) := by rw [hp, hq]; rw [Bool.eq_iff_iff]; simp; omega
        show _ = _
        rw [HS.out, e1]
      clear C1 HS hp hq hW0 B0 R0
      go_wp2_with fail
      rw [HW.out]
      refine Calls.mono HC1.out ?_
      rintro e W1 ⟨rfl, b1⟩
      have B1 : Below wr.heap.size wr W1 := H0.out.1.trans (b1.mono H0.out.1.size)
      have n1 : W1.cell? ⟨wr.heap.size, 1, none⟩ = some (.int .i64 x2) := (cell_of_row _ _ _ _ _ _ ((b1.block _ (Array.getElem?_eq_some_iff.1 H0.out.2).1).trans H0.out.2)).trans rfl
      have r0' := (ld.out W1 B1).1
      have r1' := (ld.out W1 B1).2
      have HB1 : Hid (Below wr.heap.size wr W1) := B1
      clear b1 B1 r0 r1 c1 c2 HC1 HW H0
      have fin : Hid (∀ X, Below wr.heap.size wr X → Below w.heap.size w X ∧ X.heap[w.heap.size]? = some (.cells #[.int .i64 N, .slice (some ⟨b, off, none⟩) E.length c] 24 (0, 0))) := fun X h => ⟨HR.out.1.trans (h.mono HR.out.1.size), (h.block _ (Array.getElem?_eq_some_iff.1 HR.out.2).1).trans HR.out.2⟩
      clear HR
      cases p with
      | false =>
        have HE : Hid (chk N E = (80, k)) := by show _ = _; rw [HC.out, HS2.out]; rfl
        clear HS2 HC
        go_wp2
        go_ret2
        rw [HE.out]
        exact ⟨rfl, (fin.out W1 HB1.out).1⟩
      | true =>
        go_wp2_with fail
        refine Calls.mono (C2.out W1) ?_
        rintro e W2 ⟨rfl, b2⟩
        have HB2 : Hid (Below wr.heap.size wr W2) := HB1.out.trans (b2.mono HB1.out.size)
        clear b2 HB1 r0' r1' n1
        cases q with
        | false =>
          have HE : Hid (chk N E = (80, k)) := by show _ = _; rw [HC.out, HS2.out]; rfl
          clear HS2 HC
          go_wp2
          go_ret2
          rw [HE.out]
          exact ⟨rfl, (fin.out W2 HB2.out).1⟩
        | true =>
          go_wp2
          go_roundw
          case rel => exact ⟨k + 1, rfl, hlt, HS2.out, fin.out W2 HB2.out⟩
          case measure => simp only [intOf]; omega
    · have hk1 : ¬ ((k : Int) < (E.length : Int)) := by omega
      have HE : Hid (chk N E = (0, 0)) := by show _ = _; rw [HC.out, HO.out, show k = E.length by omega, List.drop_length]; rfl
      have HB2 : Hid (Below w.heap.size w wr) := HR.out.1
      clear ho hl h3 h3' h1 h2 HO hk HC HR
      go_wp2
      go_ret2
      rw [HE.out]
      exact ⟨rfl, HB2.out⟩
end Go.Proofs.Ytgedmfcfhdfoeaa
