/- The law's helpers at lists as long as the form bears; Fold, both. -/
import Derived.Test.YtceclpabdfncoaaDoorShJe
import Derived.Test.YtceclpabdfncoaaDoorAux
import Derived.BigRegion
namespace Go.Proofs.YtceclpabdfncoaaDoor.Big
open Go.RowKit
attribute [local go_sem ↓] toApp
/-- A sum folded, behind k bytes. -/
def foldk (s : List Nat) : Nat → List Nat
  | 0 => List.replicate 20 0
  | k + 1 => (foldk s k).set (k % 20) ((foldk s k).getD (k % 20) 0 ^^^ s.getD k 0)
set_option maxRecDepth 100000 in
theorem foldk_len (s : List Nat) : ∀ k, (foldk s k).length = 20
  | 0 => by simp [foldk]
  | k + 1 => by rw [foldk, List.length_set, foldk_len s k]
set_option maxRecDepth 100000 in
theorem foldk_byt (s : List Nat) (hs : Byt s) : ∀ k, Byt (foldk s k)
  | 0 => fun x hx => by have : x = 0 := List.eq_of_mem_replicate hx; omega
  | k + 1 => by
    intro x hx
    rw [foldk] at hx
    rcases List.mem_or_eq_of_mem_set hx with h' | h'
    · exact foldk_byt s hs k x h'
    · rw [h']
      exact Nat.xor_lt_two_pow (n := 8) (getT (foldk_byt s hs k) _) (getT hs _)
def fold (s : List Nat) : List Nat := foldk s 32
set_option maxRecDepth 100000 in
theorem size51 : (Tryd.prog.info? 27).map (·.size) = some 20 := by kernel_rfl
set_option maxRecDepth 100000 in
theorem size24 : (Tryd.prog.info? 57).map (·.size) = some 32 := by kernel_rfl
def z20 : List Nat := List.replicate 20 0
set_option maxRecDepth 100000 in
set_option maxHeartbeats 1000000 in
theorem foldC_any (s : List Nat) (hl : s.length = 32) (hb : Byt s) (w : World) :
    Calls Tryd.prog 19 #[.agg (bs s)] w fun e w' => e = .returned (.agg (bs (fold s))) ∧ Below w.heap.size w w' := by
  have hu20 : ∀ (w : World) (k : Nat) (hk : k < 32), (Instr.index 57 (.agg (bs s)) (.int .i64 (k : Int))).run Tryd.prog w = .ok (.int .u8 ((s.getD k 0 : Nat) : Int)) w := fun w k hk => run_index_bs (P := Tryd.prog) w Tryd.underlying57 Tryd.underlying5 size5 s hl k hk
  go_enter Tryd.func19, Tryd.ntmps19
  go_wp2_with (refine wpList_load_row rfl 57 _ rfl _ rfl 57 (bs s) (0, 0) _ (by exact Sha.al3_0 _ _ _ _) Tryd.underlying57 rfl (by rw [size24, bs_size, hl]) ?_)
  generalize hW : World.alloc (World.alloc (World.alloc w _) _) _ = W0
  have r0 : Hid (W0.heap[w.heap.size]? = some (.cells (bs s) 57 (0, 0))) := by rw [← hW]; exact Sha.al3_0 _ _ _ _
  have r1 : Hid (W0.heap[w.heap.size + 1]? = some (.cells (bs z20) 27 (0, 0))) := by rw [← hW]; exact Sha.al3_1 _ _ _ _
  have r2 : Hid (W0.heap[w.heap.size + 1 + 1]? = some (.cells (bs (foldk s 0)) 27 (0, 0))) := by rw [← hW]; exact Sha.al3_2 _ _ _ _
  have bel0 : Below w.heap.size w W0 := by rw [← hW]; exact (((Below.refl _ w).alloc (Nat.le_refl _) _).alloc (by simp) _).alloc (by simp; omega) _
  clear hW
  go_loopw [7] (fun i wr => ∃ (k : Nat) (l : List Nat), k ≤ 32 ∧ i = .int .i64 k ∧ Hid (l = foldk s k) ∧ Hid (wr.heap[w.heap.size + 1 + 1]? = some (.cells (bs l) 27 (0, 0))) ∧ Hid (∀ j, j ≠ w.heap.size + 1 + 1 → wr.heap[j]? = W0.heap[j]?) ∧ Below w.heap.size w wr) (fun i _ => 32 - (intOf i).toNat)
  case atStart => exact ⟨0, _, by omega, rfl, rfl, r2, fun _ _ => rfl, bel0⟩
  case round =>
    obtain ⟨k, l, hk, rfl, Hl, HW, HZ, hbl⟩ := hrel
    have hll : l.length = 20 := by rw [Hl.out, foldk_len]
    have hlb : Byt l := by rw [Hl.out]; exact foldk_byt s hb k
    by_cases hlt : k < 32
    · have hk1 : (k : Int) < 32 := by omega
      have hk0 : (0 : Int) ≤ (k : Int) := by omega
      obtain ⟨q, hq⟩ : ∃ q, q = k % 20 := ⟨_, rfl⟩
      have hqI : (k : Int) % 20 = (q : Int) := by omega
      have hq20 : q < 20 := by omega
      have hqI2 : (q : Int) < 20 := by omega
      obtain ⟨x, hx⟩ : ∃ x, x = l.getD q 0 := ⟨_, rfl⟩
      obtain ⟨y, hy⟩ : ∃ y, y = s.getD k 0 := ⟨_, rfl⟩
      have hx8 : x < 256 := by rw [hx]; exact getT hlb _
      have hy8 : y < 256 := by rw [hy]; exact getT hb _
      have cx : wr.cell? ⟨w.heap.size + 1 + 1, q, none⟩ = some (.int .u8 (x : Int)) := by
        rw [cell_of_row wr _ _ _ _ _ HW.out, bs_get _ _ (by omega), hx]
      have fx := frozen_of_row wr _ q _ _ HW.out
      have hix := fun (w : World) => hu20 w k hlt
      rw [← hy] at hix
      clear hu20
      have hxy : bits BinOp.xor IntKind.u8 (x : Int) (y : Int) = ((x ^^^ y : Nat) : Int) := u8_xor_nat x y hx8 hy8
      have HY : Hid (foldk s (k + 1) = l.set q (x ^^^ y)) := by show _ = _; rw [foldk, ← Hl.out, hx, hy, ← hq]
      clear hq hx hy
      go_wp2
      go_roundw
      case rel =>
        refine ⟨k + 1, l.set q (x ^^^ y), by omega, by go_num, HY.out.symm, ?_, ?_, ?_⟩
        · exact (heap_setCell_same _ _ _ _ _ _ HW.out).trans (by rw [bs_set])
        · exact fun j hj => (heap_setCell_other _ _ _ _ hj).trans (HZ.out j hj)
        · exact (hbl.setCell (by simp <;> omega) _)
      case measure => simp [intOf]; omega
    · have hk8 : k = 32 := by omega
      have hls : l = fold s := by rw [Hl.out, hk8]; rfl
      have HR0 : Hid (wr.heap[w.heap.size + 1]? = some (.cells (bs z20) 27 (0, 0))) := (HZ.out _ (by omega)).trans r1.out
      have HLS : Hid (l = fold s) := hls
      have hk32 : ¬ (k : Int) < 32 := by omega
      clear hk8 HZ Hl hls
      go_wp2_with (first | refine wpList_load_row rfl 27 _ rfl _ rfl 27 _ (0, 0) _ (by exact HW.out) Tryd.underlying27 rfl (by rw [size51, bs_size, hll]) ?_ | refine wpList_store_row rfl 27 _ _ rfl _ _ rfl rfl 27 _ (by exact HR0.out) (by rw [size51, bs_size, hll]) (by rw [bs_size, bs_size, hll]; rfl) (bs_one _) ?_)
      have hres : (wr.setRow (w.heap.size + 1) (bs l)).heap[w.heap.size + 1]? = some (.cells (bs l) 27 (0, 0)) := setRow_heap _ _ _ _ _ _ HR0.out
      refine bodyPost_ret (v := .agg (bs l)) (results_cell_row rfl _ _ (w.heap.size + 1) 27 _ (0, 0) _ rfl hres Tryd.underlying27 rfl (by rw [size51, bs_size, hll])) rfl ⟨?_, ?_⟩
      · rw [HLS.out]
      · exact Sha.below_setRow hbl (by omega) _
end Go.Proofs.YtceclpabdfncoaaDoor.Big
