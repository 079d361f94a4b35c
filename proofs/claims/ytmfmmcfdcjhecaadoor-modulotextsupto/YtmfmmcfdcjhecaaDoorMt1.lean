/- ModuloTexts: Key, both; a text made bytes. -/
import Derived.Test.YtmfmmcfdcjhecaaDoorHex
import Derived.Test.YtmfmmcfdcjhecaaDoorB32
import Derived.Lib.ConvBytes
namespace Go.Proofs.YtmfmmcfdcjhecaaDoor
open Go.RowKit
def str (l : List Nat) : ByteArray := strOfNums (l.map (fun (x : Nat) => (x : Int)))
theorem str_size (l : List Nat) : (str l).size = l.length := by simp [str, strOfNums, ByteArray.size]
theorem heap_size_alloc (w : World) (o : Obj) : (w.alloc o).heap.size = w.heap.size + 1 := by simp
/-- The bytes of a text. -/
def bl (s : ByteArray) : List Nat := s.data.toList.map UInt8.toNat
theorem bl_len (s : ByteArray) : (bl s).length = s.size := by
  unfold bl
  rw [List.length_map, Array.length_toList]
  rfl
theorem bl_byt (s : ByteArray) : Byt (bl s) := fun x hx => by
  obtain ⟨c, _, rfl⟩ := List.mem_map.1 hx
  exact c.toNat_lt
theorem bl_app (a b : ByteArray) : bl (a ++ b) = bl a ++ bl b := by
  unfold bl
  rw [ByteArray.data_append]
  simp
/-- A string made bytes, kept shut. -/
def cvR (v : Value) : Sem Value := convert 9 31 v
theorem toCv (v : Value) : convert 9 31 v = cvR v := rfl
theorem run_cvb (w : World) (s : ByteArray) (hs : s.size ≤ 1099511627776) : ∃ c w', (cvR (.string s)).run Tryd.prog w = .ok (.slice (some ⟨w.heap.size, 0, none⟩) s.size c) w' ∧ Byl (.slice (some ⟨w.heap.size, 0, none⟩) s.size c) (bl s) w' ∧ Below w.heap.size w w' := by
  refine ⟨_, _, Lib.run_convert_string_bytes (P := Tryd.prog) w 9 31 5 s Tryd.underlying9 Tryd.underlying31 Tryd.underlying5, ?_, ?_⟩
  · refine .inr ⟨w.heap.size, 0, _, by rw [bl_len], by rw [bl_len]; exact grownCap_ge _ _ _ _, grownCap_le_maxLen _ _ _ _ (by unfold maxLen; omega), by rw [Lib.bytesWorld_size]; omega, fun j hj => ?_⟩
    rw [bl_len] at hj
    rw [Nat.zero_add, Lib.bytesWorld_cell w 5 s j hj]
    have : (bl s).getD j 0 = (s.data.toList.getD j 0).toNat := by
      unfold bl
      have h2 : j < s.data.size := hj
      simp only [List.getD, List.getElem?_map, Array.getElem?_toList, Array.getElem?_eq_getElem h2]
      rfl
    rw [this]
  · exact ⟨rfl, rfl, rfl, by rw [Lib.bytesWorld_size]; omega, fun k hk => Lib.bytesWorld_at_old w 5 s k hk⟩
theorem run_cvw (w : World) (s : ByteArray) (hs : s.size ≤ 3298534883328) : ∃ c w', (cvR (.string s)).run Tryd.prog w = .ok (.slice (some ⟨w.heap.size, 0, none⟩) s.size c) w' ∧ Byl (.slice (some ⟨w.heap.size, 0, none⟩) s.size c) (bl s) w' ∧ Below w.heap.size w w' := by
  refine ⟨_, _, Lib.run_convert_string_bytes (P := Tryd.prog) w 9 31 5 s Tryd.underlying9 Tryd.underlying31 Tryd.underlying5, ?_, ?_⟩
  · refine .inr ⟨w.heap.size, 0, _, by rw [bl_len], by rw [bl_len]; exact grownCap_ge _ _ _ _, grownCap_le_maxLen _ _ _ _ (by unfold maxLen; omega), by rw [Lib.bytesWorld_size]; omega, fun j hj => ?_⟩
    rw [bl_len] at hj
    rw [Nat.zero_add, Lib.bytesWorld_cell w 5 s j hj]
    have : (bl s).getD j 0 = (s.data.toList.getD j 0).toNat := by
      unfold bl
      have h2 : j < s.data.size := hj
      simp only [List.getD, List.getElem?_map, Array.getElem?_toList, Array.getElem?_eq_getElem h2]
      rfl
    rw [this]
  · exact ⟨rfl, rfl, rfl, by rw [Lib.bytesWorld_size]; omega, fun k hk => Lib.bytesWorld_at_old w 5 s k hk⟩
theorem row_byl (s : List Nat) (hl : s.length = 32) (w : World) : Byl (.slice (some ⟨w.heap.size, 0, none⟩) 32 32) s (w.alloc (.cells (bs s) 23)) := by
  have := byl_row (w := w.alloc (.cells (bs s) 23)) (heap_alloc_new w (.cells (bs s) 23)) (by unfold maxLen; omega)
  rw [hl] at this
  exact this
theorem size23 : (Tryd.prog.info? 23).map (·.size) = some 32 := by kernel_rfl
def ldR (v : Value) : Sem Value := Instr.loadAt 23 v
theorem toLd (v : Value) : Instr.loadAt 23 v = ldR v := rfl
theorem run_ld23 (w : World) (g : Nat) (l : List Nat) (hg : w.heap[g]? = some (.cells (bs l) 23 (0, 0))) (hl : l.length = 32) : (ldR (.pointer (some ⟨g, 0, none⟩))).run Tryd.prog w = .ok (.agg (bs l)) w := by
  unfold ldR
  simp only [Instr.loadAt, Instr.sureAddr, Sem.run_bind, Sem.run_pure, Result.andThen_ok, run_loadVar_row w g 23 23 (bs l) (0, 0) _ hg Tryd.underlying23 rfl (by rw [size23, bs_size, hl])]
attribute [local go_sem ↓] toLd
def bang : ByteArray := ⟨#[33]⟩
set_option maxHeartbeats 1000000 in
/-- The document's hex. -/
theorem hex7_any (s : List Nat) (hl : s.length = 32) (hb : Byt s) (w : World) :
    Calls Tryd.prog 11 #[.agg (bs s)] w fun e w' => e = .returned (.string (str (hexL s))) ∧ Below w.heap.size w w' := by
  have bel : Below w.heap.size w (w.alloc (.cells (bs s) 23)) := (Below.refl _ w).alloc (Nat.le_refl _) _
  have C : Hid (Calls Tryd.prog 18 #[.slice (some ⟨w.heap.size, 0, none⟩) 32 32] (w.alloc (.cells (bs s) 23)) fun e w' => e = .returned (.string (str (hexL s))) ∧ Below (w.heap.size + 1) (w.alloc (.cells (bs s) 23)) w') := by
    have := hexR_any s hb (by omega) _ _ (row_byl s hl w)
    rw [heap_size_alloc] at this
    exact this
  go_enter Tryd.func11, Tryd.ntmps11
  go_wp2_with fail
  refine C.out.mono ?_
  rintro e w1 ⟨rfl, b1⟩
  have hb1 : Below w.heap.size w w1 := bel.trans (b1.mono (by omega))
  go_wp2
  go_ret
  exact ⟨rfl, hb1⟩
set_option maxHeartbeats 1000000 in
theorem keyC_any (s : List Nat) (hl : s.length = 32) (hb : Byt s) (o : ByteArray) (ho : o.size ≤ 1099511627776) (w : World) (ht : Tx w) :
    Calls Tryd.prog 4 #[.agg (bs s), .string o] w fun e w' => e = .returned (.string (str (hexL s) ++ bang ++ o)) ∧ Below w.heap.size w w' := by
  have bel : Below w.heap.size w (w.alloc (.cells (bs s) 23)) := (Below.refl _ w).alloc (Nat.le_refl _) _
  have C : Hid (Calls Tryd.prog 10 #[.slice (some ⟨w.heap.size, 0, none⟩) 32 32] (w.alloc (.cells (bs s) 23)) fun e w' => e = .returned (.string (str (hexL s))) ∧ Below (w.heap.size + 1) (w.alloc (.cells (bs s) 23)) w') := by
    have := hexC_any s hb (by omega) _ _ (row_byl s hl w) (ht.below bel ht.sz)
    rw [heap_size_alloc] at this
    exact this
  have hH : (str (hexL s)).size = 64 := by rw [str_size, hexL_len]; omega
  go_enter Tryd.func4, Tryd.ntmps4
  go_wp2_with fail
  refine C.out.mono ?_
  rintro e w1 ⟨rfl, b1⟩
  have hb1 : Below w.heap.size w w1 := bel.trans (b1.mono (by omega))
  go_wp2
  go_ret
  exact ⟨rfl, hb1⟩
set_option maxHeartbeats 1000000 in
theorem keyR_any (s : List Nat) (hl : s.length = 32) (hb : Byt s) (o : ByteArray) (ho : o.size ≤ 1099511627776) (w : World) :
    Calls Tryd.prog 5 #[.agg (bs s), .string o] w fun e w' => e = .returned (.string (str (hexL s) ++ bang ++ o)) ∧ Below w.heap.size w w' := by
  have bel : Below w.heap.size w (w.alloc (.cells (bs s) 23)) := (Below.refl _ w).alloc (Nat.le_refl _) _
  have C : Hid (Calls Tryd.prog 11 #[.agg (bs s)] (w.alloc (.cells (bs s) 23)) fun e w' => e = .returned (.string (str (hexL s))) ∧ Below (w.heap.size + 1) (w.alloc (.cells (bs s) 23)) w') := by
    have := hex7_any s hl hb (w.alloc (.cells (bs s) 23))
    rw [heap_size_alloc] at this
    exact this
  have LD : Hid _ := run_ld23 (w.alloc (.cells (bs s) 23)) w.heap.size s (heap_alloc_new w _) hl
  have hH : (str (hexL s)).size = 64 := by rw [str_size, hexL_len]; omega
  have ld := LD.out
  go_enter Tryd.func5, Tryd.ntmps5
  go_wp2_with fail
  refine C.out.mono ?_
  rintro e w1 ⟨rfl, b1⟩
  have hb1 : Below w.heap.size w w1 := bel.trans (b1.mono (by omega))
  go_wp2
  go_ret
  exact ⟨rfl, hb1⟩
end Go.Proofs.YtmfmmcfdcjhecaaDoor
