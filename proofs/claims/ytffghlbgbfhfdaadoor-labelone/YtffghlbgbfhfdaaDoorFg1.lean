/- A finger as it lies; the table of kinds; what may be said. -/
import Derived.Test.YtffghlbgbfhfdaaDoorSr5
import Derived.Test.YtffghlbgbfhfdaaDoorLo2
namespace Go.Proofs.YtffghlbgbfhfdaaDoor
open Go.RowKit Go.Shelf Go.Sort
/-- A finger. -/
structure Fg where
  k : Int
  v : Value
  L : List Lb
  self : Bool
  out : ByteArray
  ix : Int
  sm : List Nat
  nm : ByteArray
  hl : sm.length = 32
  hb : Byt sm
  hk : -9223372036854775808 ≤ k ∧ k ≤ 9223372036854775807
  hix : -9223372036854775808 ≤ ix ∧ ix ≤ 9223372036854775807
  hn : L.length ≤ 4398046511104
  hL : ∀ x ∈ L, Byt x.h
def fing (f : Fg) : Array Value := #[.int .i64 f.k, f.v, .bool f.self, .string f.out, .int .i64 f.ix] ++ bs f.sm ++ #[.string f.nm]
theorem fing_size (f : Fg) : (fing f).size = 38 := by simp [fing, bs_size, f.hl]
theorem fing_name (f : Fg) : (fing f)[37]? = some (.string f.nm) := by
  unfold fing
  rw [Array.getElem?_append_right (by simp [bs_size, f.hl])]
  simp [bs_size, f.hl]
theorem fing_head (f : Fg) (k : Nat) (hk : k < 5) : (fing f)[k]? = (#[.int .i64 f.k, f.v, .bool f.self, .string f.out, .int .i64 f.ix] : Array Value)[k]? := by
  unfold fing
  rw [Array.append_assoc, Array.getElem?_append_left (by simpa using hk)]
theorem fing_sum (f : Fg) (j : Nat) (hj : j < f.sm.length) : (fing f)[5 + j]? = some (.int .u8 ((f.sm.getD j 0 : Nat) : Int)) := by
  unfold fing
  rw [Array.getElem?_append_left (by simp [bs_size]; omega), Array.getElem?_append_right (by simp)]
  simp only [List.size_toArray, List.length_cons, List.length_nil, Nat.add_sub_cancel_left]
  exact bs_get _ _ hj
theorem fing_cells {f : Fg} {g : Nat} {W : World} (h : W.heap[g]? = some (.cells (fing f) 26 (0, 0))) : W.cell? ⟨g, 0, none⟩ = some (.int .i64 f.k) ∧ W.cell? ⟨g, 1, none⟩ = some f.v ∧ W.cell? ⟨g, 2, none⟩ = some (.bool f.self) ∧ W.cell? ⟨g, 3, none⟩ = some (.string f.out) ∧ W.cell? ⟨g, 4, none⟩ = some (.int .i64 f.ix) ∧ W.cell? ⟨g, 37, none⟩ = some (.string f.nm) :=
  ⟨(cell_of_row W g 0 _ _ _ h).trans (fing_head f 0 (by omega)), (cell_of_row W g 1 _ _ _ h).trans (fing_head f 1 (by omega)), (cell_of_row W g 2 _ _ _ h).trans (fing_head f 2 (by omega)), (cell_of_row W g 3 _ _ _ h).trans (fing_head f 3 (by omega)), (cell_of_row W g 4 _ _ _ h).trans (fing_head f 4 (by omega)), (cell_of_row W g 37 _ _ _ h).trans (fing_name f)⟩
set_option maxRecDepth 100000 in
theorem sizeF : (Tryd.prog.info? 26).map (·.size) = some 38 := by kernel_rfl
set_option maxRecDepth 100000 in
theorem underF : Tryd.prog.underlying 26 = some (.struct (Tryd.prog.fieldsOf 26)) := by kernel_rfl
theorem toFl (v : Value) : Instr.loadAt 26 v = loadR 26 v := rfl
theorem run_ldF (w : World) (g : Nat) (f : Fg) (hg : w.heap[g]? = some (.cells (fing f) 26 (0, 0))) : (loadR 26 (.pointer (some ⟨g, 0, none⟩))).run Tryd.prog w = .ok (.agg (fing f)) w := by
  unfold loadR
  simp only [Instr.loadAt, Instr.sureAddr, Sem.run_bind, Sem.run_pure, Result.andThen_ok, run_loadVar_row w g 26 26 (fing f) (0, 0) _ hg underF rfl (by rw [sizeF, fing_size f])]
/-- The words of the kinds, and what each uses. -/
def kwT : ByteArray := ⟨#[116, 101, 120, 116]⟩
def kwS : ByteArray := ⟨#[115, 111, 117, 114, 99, 101]⟩
def kwO : ByteArray := ⟨#[111, 117, 116, 112, 117, 116]⟩
def kwM : ByteArray := ⟨#[109, 101, 109, 98, 101, 114]⟩
structure Tk (w : World) : Prop where
  sz : 0 < w.heap.size
  w1 : w.cell? ⟨0, 2, none⟩ = some (.string ⟨#[116, 101, 120, 116]⟩)
  u1 : w.cell? ⟨0, 3, none⟩ = some (.int .i64 1)
  w2 : w.cell? ⟨0, 4, none⟩ = some (.string ⟨#[115, 111, 117, 114, 99, 101]⟩)
  u2 : w.cell? ⟨0, 5, none⟩ = some (.int .i64 3)
  w3 : w.cell? ⟨0, 6, none⟩ = some (.string ⟨#[111, 117, 116, 112, 117, 116]⟩)
  u3 : w.cell? ⟨0, 7, none⟩ = some (.int .i64 4)
  w4 : w.cell? ⟨0, 8, none⟩ = some (.string ⟨#[109, 101, 109, 98, 101, 114]⟩)
  u4 : w.cell? ⟨0, 9, none⟩ = some (.int .i64 8)
theorem Tk.keep {w w' : World} (h : Tk w) (hs : w.heap.size ≤ w'.heap.size) (hb : w'.heap[0]? = w.heap[0]?) : Tk w' :=
  ⟨Nat.lt_of_lt_of_le h.sz hs, (World.cell?_of_block (w := w) hb).trans h.w1, (World.cell?_of_block (w := w) hb).trans h.u1, (World.cell?_of_block (w := w) hb).trans h.w2, (World.cell?_of_block (w := w) hb).trans h.u2, (World.cell?_of_block (w := w) hb).trans h.w3, (World.cell?_of_block (w := w) hb).trans h.u3, (World.cell?_of_block (w := w) hb).trans h.w4, (World.cell?_of_block (w := w) hb).trans h.u4⟩
theorem Tk.below {w w' : World} {B : Nat} (h : Tk w) (hb : Below B w w') (hB : 0 < B) : Tk w' := h.keep hb.size (hb.block _ hB)
/-- Has it what its kind does not use? -/
def unV (f : Fg) : Bool :=
  (decide (f.k ≠ 1 ∧ f.k ≠ 2) && decide (0 < f.L.length)) || (decide (f.k ≠ 2) && f.self) || (decide (f.k ≠ 3) && decide (0 < f.out.size)) || (decide (f.k ≠ 4) && decide (f.ix ≠ 0))
/-- The first name that may not be. -/
def badN : List Lb → Nat
  | [] => 0
  | x :: r => if okN x.s = 0 then badN r else okN x.s
def refV (L : List Lb) : Nat := if 256 < L.length then 1 else badN L
/-- Why it may not be said. -/
def chkV (f : Fg) : Nat :=
  if ¬ (1 ≤ f.k ∧ f.k ≤ 4) then 23 else if unV f = true then 31 else if okN f.nm ≠ 0 then okN f.nm else if f.k = 3 ∧ okN f.out ≠ 0 then okN f.out else if ¬ (0 ≤ f.ix ∧ f.ix < 64) then 2 else refV f.L
end Go.Proofs.YtffghlbgbfhfdaaDoor
