import Derived.Test.YteajpimonenopaaGreatDoorShSumOf
import Derived.Deep.MidRow
namespace Go.Proofs.YteajpimonenopaaGreatDoor.Sha
open Go.RowKit
/-- A hasher's cells: the state, the rest, the length. -/
def hs (st rest : List Nat) (n : Nat) : Array Value := (st.map (fun (x : Nat) => Value.int .u32 (x : Int)) ++ (rest.map (fun (x : Nat) => Value.int .u8 (x : Int)) ++ [Value.int .i64 (n : Int)])).toArray
theorem hs_size (st rest : List Nat) (n : Nat) (h1 : st.length = 8) (h2 : rest.length = 64) : (hs st rest n).size = 73 := by simp [hs, h1, h2]
theorem hs_state (st rest : List Nat) (n : Nat) (h1 : st.length = 8) (i : Nat) (hi : i < 8) : (hs st rest n)[i]? = some (.int .u32 ((st.getD i 0 : Nat) : Int)) := by
  have : i < st.length := by omega
  simp [hs, List.getElem?_append, this, List.getD]
theorem hs_rest (st rest : List Nat) (n : Nat) (h1 : st.length = 8) (h2 : rest.length = 64) (i : Nat) (hi : i < 64) : (hs st rest n)[8 + i]? = some (.int .u8 ((rest.getD i 0 : Nat) : Int)) := by
  have h3 : ¬ 8 + i < st.length := by omega
  have h4 : 8 + i - st.length = i := by omega
  have h5 : i < rest.length := by omega
  simp [hs, List.getElem?_append, h3, h4, h5, List.getD]
theorem hs_len (st rest : List Nat) (n : Nat) (h1 : st.length = 8) (h2 : rest.length = 64) : (hs st rest n)[72]? = some (.int .i64 (n : Int)) := by
  have h3 : ¬ 72 < st.length := by omega
  have h4 : ¬ 72 - st.length < rest.length := by omega
  have h5 : 72 - st.length - rest.length = 0 := by omega
  simp [hs, List.getElem?_append, h3, h4, h5]
/-- Of what was there, block g alone may have turned. -/
structure Touch (g : Nat) (w w' : World) : Prop where
  os : w'.os = w.os
  tape : w'.tape = w.tape
  output : w'.output = w.output
  size : w.heap.size ≤ w'.heap.size
  block : ∀ j, j < w.heap.size → j ≠ g → w'.heap[j]? = w.heap[j]?
theorem Touch.refl (g : Nat) (w : World) : Touch g w w := ⟨rfl, rfl, rfl, Nat.le_refl _, fun _ _ _ => rfl⟩
theorem Touch.trans {g : Nat} {a b c : World} (h : Touch g a b) (k : Touch g b c) : Touch g a c :=
  ⟨k.os.trans h.os, k.tape.trans h.tape, k.output.trans h.output, Nat.le_trans h.size k.size, fun j hj hne => (k.block j (Nat.lt_of_lt_of_le hj h.size) hne).trans (h.block j hj hne)⟩
theorem Touch.of_below {g : Nat} {w w' : World} (h : Below w.heap.size w w') : Touch g w w' := ⟨h.os, h.tape, h.output, h.size, fun j hj _ => h.block j hj⟩
theorem Touch.drew {g : Nat} {a w : World} (h : Touch g a w) : Touch g a w.drew := ⟨h.os, h.tape, h.output, h.size, h.block⟩
theorem Touch.setRow {g : Nat} {a w : World} (h : Touch g a w) (cs : Array Value) : Touch g a (w.setRow g cs) :=
  ⟨h.os, h.tape, h.output, by simpa using h.size, fun j hj hne => (setRow_other _ _ _ _ hne).trans (h.block j hj hne)⟩
theorem Touch.setCell {g i : Nat} {a w : World} (h : Touch g a w) (v : Value) : Touch g a (w.setCell ⟨g, i, none⟩ v) :=
  ⟨h.os, h.tape, h.output, by simpa [World.setCell] using h.size, fun j hj hne => (heap_setCell_other _ _ _ _ hne).trans (h.block j hj hne)⟩
/-- A hasher that the caller made itself: nothing older has turned. -/
theorem Touch.below {g B : Nat} {a w : World} (h : Touch g a w) (hB : B ≤ g) (hs : B ≤ a.heap.size) : Below B a w :=
  ⟨h.os, h.tape, h.output, h.size, fun j hj => h.block j (by omega) (by omega)⟩
end Go.Proofs.YteajpimonenopaaGreatDoor.Sha
