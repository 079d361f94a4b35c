/- LabelOutputs: a finger of an output; headOf. -/
import Derived.Test.YtageaeebiopmbaaDoorLo2
import Derived.Deep.MidRow
namespace Go.Proofs.YtageaeebiopmbaaDoor
open Go.RowKit
theorem stX : Builder.Extra Tryd.prog Tryd.stL_ren where
  sizeBuilder := by kernel_rfl
  liesBuilder := by kernel_rfl
  t5 := Tryd.underlying5
  a5 := Tryd.isAgg5
  z5 := Tryd.sizeOf5
  v5 := Tryd.zeroValue5
  infoByte := by kernel_rfl
  cellsByte := by kernel_rfl
  sizeByte := by kernel_rfl
  neB5 := by decide
/-- An output's finger. -/
def fing (o n : ByteArray) (s : List Nat) : Array Value := #[.int .i64 3, .slice none 0 0, .bool false, .string o, .int .i64 0] ++ bs s ++ #[.string n]
theorem fing_size (o n : ByteArray) (s : List Nat) (hl : s.length = 32) : (fing o n s).size = 38 := by simp [fing, bs_size, hl]
theorem fing_name (o n : ByteArray) (s : List Nat) (hl : s.length = 32) : (fing o n s)[37]? = some (.string n) := by
  unfold fing
  rw [Array.getElem?_append_right (by simp [bs_size, hl])]
  simp [bs_size, hl]
theorem fing_head (o n : ByteArray) (s : List Nat) (k : Nat) (hk : k < 5) : (fing o n s)[k]? = (#[.int .i64 3, .slice none 0 0, .bool false, .string o, .int .i64 0] : Array Value)[k]? := by
  unfold fing
  rw [Array.append_assoc, Array.getElem?_append_left (by simpa using hk)]
theorem fing_sum (o n : ByteArray) (s : List Nat) (j : Nat) (hj : j < s.length) : (fing o n s)[5 + j]? = some (.int .u8 ((s.getD j 0 : Nat) : Int)) := by
  unfold fing
  rw [Array.getElem?_append_left (by simp [bs_size]; omega), Array.getElem?_append_right (by simp)]
  simp only [List.size_toArray, List.length_cons, List.length_nil, Nat.add_sub_cancel_left]
  exact bs_get _ _ hj
/-- The table of kinds, as far as outputs ask. -/
structure Tk (w : World) : Prop where
  c6 : w.cell? ⟨0, 6, none⟩ = some (.string ⟨#[111, 117, 116, 112, 117, 116]⟩)
  c7 : w.cell? ⟨0, 7, none⟩ = some (.int .i64 4)
theorem Tk.below {w w' : World} {B : Nat} (h : Tk w) (hb : Below B w w') (hB : 0 < B) : Tk w' := ⟨(World.cell?_of_block (w := w) (hb.block 0 hB)).trans h.c6, (World.cell?_of_block (w := w) (hb.block 0 hB)).trans h.c7⟩
def cpL (ty : Nat) (vs : Array Value) : Sem Value := Builtin.copy_ #[37, 37] ty vs
theorem toCpL (ty : Nat) (vs : Array Value) : Builtin.copy_ #[37, 37] ty vs = cpL ty vs := rfl
theorem run_cpL0 (W : World) (g : Nat) : (cpL 3 #[.slice (some ⟨g, 0, none⟩) 0 0, .slice none 0 0]).run Tryd.prog W = .ok (.int .i64 0) W := run_copy_nil (P := Tryd.prog) W 37 37 3 27 ⟨g, 0, none⟩ _ _ Tryd.underlying37 (by kernel_rfl)
attribute [local go_sem ↓] toMkL toCpL
set_option maxRecDepth 100000 in
set_option maxHeartbeats 1000000 in
theorem sort_0 (w : World) : Calls Tryd.prog 26 #[.slice none 0 0] w fun e w' => ∃ o, e = .returned (.slice o 0 0) ∧ Below w.heap.size w w' := by
  obtain ⟨W1, r1, b1⟩ := run_mkL0 w
  have C1 : Hid (∀ f, Calls Tryd.prog 35 #[.slice (some ⟨w.heap.size, 0, none⟩) 0 0, f] W1 fun e w' => e = .returned (.tuple #[]) ∧ w' = W1) := fun f => sortF_0 _ 0 f W1
  have rc := run_cpL0 W1 w.heap.size
  have C2 : Hid _ := compact_0 (some ⟨w.heap.size, 0, none⟩) 0 W1
  have HB : Hid (Below w.heap.size w W1) := b1
  clear b1
  go_enter Tryd.func26, Tryd.ntmps26
  go_wp2_with fail
  refine Calls.mono (C1.out _) ?_
  rintro e W ⟨rfl, rfl⟩
  go_wp2_with fail
  refine Calls.mono C2.out ?_
  rintro e W ⟨rfl, rfl⟩
  go_wp2
  go_ret
  exact ⟨_, rfl, HB.out⟩
end Go.Proofs.YtageaeebiopmbaaDoor
