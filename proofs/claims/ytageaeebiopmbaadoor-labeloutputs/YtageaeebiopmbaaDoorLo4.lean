/- LabelOutputs: headOf. -/
import Derived.Test.YtageaeebiopmbaaDoorLo3
namespace Go.Proofs.YtageaeebiopmbaaDoor
open Go.RowKit
def outw : ByteArray := ⟨#[111, 117, 116, 112, 117, 116]⟩
def colw : ByteArray := ⟨#[58]⟩
theorem bs_app2 (a b : ByteArray) : (⟨(a.data.toList ++ b.data.toList).toArray⟩ : ByteArray) = a ++ b := by
  apply ByteArray.ext
  rw [ByteArray.data_append]
  simp
theorem cells39 (o n : ByteArray) (s : List Nat) (g : Nat) (W : World) (h : W.heap[g]? = some (.cells (fing o n s) 39 (0, 0))) : W.cell? ⟨g, 0, none⟩ = some (.int .i64 3) ∧ W.cell? ⟨g, 1, none⟩ = some (.slice none 0 0) ∧ W.cell? ⟨g, 2, none⟩ = some (.bool false) ∧ W.cell? ⟨g, 3, none⟩ = some (.string o) ∧ W.cell? ⟨g, 4, none⟩ = some (.int .i64 0) :=
  ⟨(cell_of_row W g 0 _ _ _ h).trans (fing_head o n s 0 (by omega)), (cell_of_row W g 1 _ _ _ h).trans (fing_head o n s 1 (by omega)), (cell_of_row W g 2 _ _ _ h).trans (fing_head o n s 2 (by omega)), (cell_of_row W g 3 _ _ _ h).trans (fing_head o n s 3 (by omega)), (cell_of_row W g 4 _ _ _ h).trans (fing_head o n s 4 (by omega))⟩
theorem own_belowV {W W' : World} {B n : Nat} {v : Value} {xs : List Value} (h : W.ownsRow B 5 1 v n xs) (hb : Below W.heap.size W W') : W'.ownsRow B 5 1 v n xs := by
  obtain ⟨k1, k2⟩ := h
  exact ⟨k1, k2.imp_right fun ⟨g, cap, cur, q1, q2, q3, q4⟩ => ⟨g, cap, cur, q1, q2, (hb.block g (Array.getElem?_eq_some_iff.1 q3).1).trans q3, q4⟩⟩
theorem isB_below {W W' : World} {B b : Nat} {xs : List Value} (h : Lib.IsBuilder 63 5 B b xs W) (hb : Below W.heap.size W W') : Lib.IsBuilder 63 5 B b xs W' := by
  rcases h with ⟨h1, v, h2, h3, h4⟩ | ⟨h1, v, h2, h3, h4⟩
  · exact .inl ⟨h1, v, (hb.block b (Array.getElem?_eq_some_iff.1 h2).1).trans h2, own_belowV h3 hb, h4⟩
  · exact .inr ⟨h1, v, (hb.block b (Array.getElem?_eq_some_iff.1 h2).1).trans h2, own_belowV h3 hb, h4⟩
set_option maxRecDepth 100000 in
set_option maxHeartbeats 1000000 in
theorem head_any (o n : ByteArray) (ho : o.size ≤ 1073741824) (s : List Nat) (w : World) (hk : Tk w) (hsz : 4 < w.heap.size) :
    Calls Tryd.prog 18 #[.agg (fing o n s)] w fun e w' => e = .returned (.string (outw ++ (colw ++ o))) ∧ Below w.heap.size w w' := by
  obtain ⟨W0, hW0⟩ : ∃ W0, (w.alloc (.cells (fing o n s) 39)).alloc (.cells #[.pointer none, .slice none 0 0] 63) = W0 := ⟨_, rfl⟩
  have bel : Below w.heap.size w W0 := by rw [← hW0]; exact ((Below.refl _ w).alloc (Nat.le_refl _) _).alloc (by simp) _
  have hs0 : W0.heap.size = w.heap.size + 2 := by rw [← hW0]; simp
  have rowF : W0.heap[w.heap.size]? = some (.cells (fing o n s) 39 (0, 0)) := by rw [← hW0]; exact heap_alloc2_old _ _ _
  have rowB : W0.heap[w.heap.size + 1]? = some (.cells #[.pointer none, .slice none 0 0] 63 (0, 0)) := by rw [← hW0]; exact heap_alloc2_new _ _ _
  have isB : Lib.IsBuilder 63 5 (w.heap.size + 1) (w.heap.size + 1) [] W0 := .inl ⟨Nat.le_refl _, _, rowB, World.ownsRow_nil _ _ _ _, by simp [Value.ownBlock]⟩
  have C1 : Hid _ := ws_any (w.heap.size + 1) (w.heap.size + 1) [] outw W0 isB (by simp [outw, ByteArray.size]) (by omega)
  have f0 : (fing o n s)[0]? = some (.int .i64 3) := fing_head o n s 0 (by omega)
  have hk0 := hk.below bel (by omega)
  have k6 := hk0.c6
  have HF : Hid (∀ W, Below (w.heap.size + 1) W0 W → W.heap[w.heap.size]? = some (.cells (fing o n s) 39 (0, 0))) := fun W hb => (hb.block _ (by omega)).trans rowF
  have HW0 : Hid ((w.alloc (.cells (fing o n s) 39)).alloc (.cells #[.pointer none, .slice none 0 0] 63) = W0) := hW0
  have HB0 : Hid (Below w.heap.size w W0 ∧ W0.heap.size = w.heap.size + 2) := ⟨bel, hs0⟩
  have k6e : ((w.alloc (.cells (fing o n s) 39)).alloc (.cells #[.pointer none, .slice none 0 0] 63)).cell? ⟨0, 6, none⟩ = some (.string ⟨#[111, 117, 116, 112, 117, 116]⟩) := by rw [hW0]; exact k6
  clear hW0 bel hs0 rowF rowB isB hk hk0
  go_enter Tryd.func18, Tryd.ntmps18
  go_wp2_with fail
  rw [HW0.out]
  refine Calls.mono C1.out ?_
  rintro e W1 ⟨rfl, hi1, b1⟩
  clear C1 k6e k6 f0
  have hB0 := HB0.out
  have b01 : Below w.heap.size w W1 := hB0.1.trans (b1.mono (by omega))
  obtain ⟨q0, q1, q2, q3, q4⟩ := cells39 o n s _ W1 (HF.out W1 b1)
  have C2 : Hid _ := sort_0 W1
  have H1 : Hid (Lib.IsBuilder 63 5 (w.heap.size + 1) (w.heap.size + 1) ([] ++ Lib.strCells outw) W1 ∧ Below (w.heap.size + 1) W0 W1) := ⟨hi1, b1⟩
  clear hi1 b1 b01 hB0
  go_wp2_with fail
  refine Calls.mono C2.out ?_
  rintro e W2 ⟨ox, rfl, b2⟩
  clear C2 q0 q1 q2 q3 q4
  have b02 : Below (w.heap.size + 1) W0 W2 := H1.out.2.trans (b2.mono (by have := H1.out.2.size; have := HB0.out.2; omega))
  have H2 : Hid (Lib.IsBuilder 63 5 (w.heap.size + 1) (w.heap.size + 1) ([] ++ Lib.strCells outw) W2 ∧ Below (w.heap.size + 1) W0 W2) := ⟨isB_below H1.out.1 b2, b02⟩
  obtain ⟨q0, q1, q2, q3, q4⟩ := cells39 o n s _ W2 (HF.out W2 b02)
  clear H1 b2 b02
  have hz2 := H2.out.2.size
  have C3 : Hid _ := ws_any (w.heap.size + 1) (w.heap.size + 1) ([] ++ Lib.strCells outw) (colw ++ o) W2 H2.out.1 (by
    have e1 : (colw ++ o).size = 1 + o.size := ByteArray.size_append
    have e2 : outw.size = 6 := rfl
    rw [List.nil_append, Lib.strCells_length, e1, e2]
    omega) (by have := HB0.out.2; omega)
  clear hz2
  have hcs : ¬ (9223372036854775807 < 1 + o.size) := by omega
  go_wp2_with fail
  go_loopw [16] (fun iv wr => iv = .int .i64 0 ∧ wr = W2) (fun _ _ => 0)
  case atStart => exact ⟨rfl, rfl⟩
  case round =>
    obtain ⟨rfl, rfl⟩ := hrel
    go_wp2_with fail
    refine Calls.mono C3.out ?_
    rintro e W3 ⟨rfl, hi3, b3⟩
    clear C3 q0 q1 q2 q3 q4
    have hB0 := HB0.out
    have b03 : Below (w.heap.size + 1) W0 W3 := H2.out.2.trans b3
    have hl : [] ++ Lib.strCells outw ++ Lib.strCells (colw ++ o) = Lib.byteCells (outw.data.toList ++ (colw ++ o).data.toList) := by
      rw [List.nil_append, Lib.strCells_eq, Lib.strCells_eq, ← Lib.byteCells_append]
    rw [hl] at hi3
    have C4 : Hid (Calls Tryd.prog 28 #[.pointer (some ⟨w.heap.size + 1, 0, none⟩)] W3 fun e w' => e = .returned (.string (outw ++ (colw ++ o))) ∧ Below (w.heap.size + 1) W3 w') := by
      have := Any.Builder_String_any Tryd.stL stX (w.heap.size + 1) (w.heap.size + 1) (outw.data.toList ++ (colw ++ o).data.toList) W3 hi3 (by have := b03.size; omega)
      rw [bs_app2] at this
      exact this
    have HB3 : Hid (Below w.heap.size w W3) := hB0.1.trans (b03.mono (by omega))
    clear hl hi3 b3 b03 hB0 H2
    go_wp2_with fail
    refine Calls.mono C4.out ?_
    rintro e W4 ⟨rfl, b4⟩
    have HB4 : Hid (Below w.heap.size w W4) := HB3.out.trans (b4.mono (by omega))
    clear C4 b4
    go_wp2
    go_ret
    exact ⟨rfl, HB4.out⟩
end Go.Proofs.YtageaeebiopmbaaDoor
