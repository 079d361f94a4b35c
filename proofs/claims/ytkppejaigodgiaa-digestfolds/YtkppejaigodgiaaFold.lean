import Derived.Test.YtkppejaigodgiaaRows
import Derived.Test.YtkppejaigodgiaaBytes
import Derived.Test.YtkppejaigodgiaaMath
import Derived.Deep.QuietTactic
import Derived.BigQuiet
namespace Go.Proofs.Ytkppejaigodgiaa
open Go.RowKit
theorem size5 : (Try.prog.info? 5).map (·.size) = some 1 := by kernel_rfl
theorem size23 : (Try.prog.info? 23).map (·.size) = some 32 := by kernel_rfl
theorem size25 : (Try.prog.info? 25).map (·.size) = some 20 := by kernel_rfl
theorem al3_0 (w : World) (A B C : Obj) : (((w.alloc A).alloc B).alloc C).heap[w.heap.size]? = some A := by
  rw [heap_alloc_old _ _ (h := by simp; omega), heap_alloc2_old]
theorem al3_1 (w : World) (A B C : Obj) : (((w.alloc A).alloc B).alloc C).heap[w.heap.size + 1]? = some B := by
  rw [heap_alloc_old _ _ (h := by simp), heap_alloc2_new]
theorem al3_2 (w : World) (A B C : Obj) : (((w.alloc A).alloc B).alloc C).heap[w.heap.size + 1 + 1]? = some C := by
  have := heap_alloc_new ((w.alloc A).alloc B) C
  simpa using this
def z20 : List Nat := List.replicate 20 0
set_option maxHeartbeats 400000 in
theorem fold_at (l f : List Nat) (hf : Hid (f = fold32 l)) (hl : l.length = 32) (hb : Byt l) (w : World) :
    Calls Try.prog 4 #[.agg (bs l)] w fun e w' => e = .returned (.agg (bs f)) ∧ Below w.heap.size w w' := by
  go_enter Try.func4, Try.ntmps4
  go_wp2_with (refine wpList_load_row rfl 23 _ rfl _ rfl 23 (bs l) (0, 0) _ (by exact al3_0 _ _ _ _) Try.underlying23 rfl (by rw [size23, bs_size, hl]) ?_)
  go_loopw [7] (fun i wr => ∃ k : Nat, k ≤ 32 ∧ i = .int .i64 k ∧ wr.heap[w.heap.size + 1 + 1]? = some (.cells (bs (foldk l k)) 25 (0, 0)) ∧ wr.heap[w.heap.size + 1]? = some (.cells (bs z20) 25 (0, 0)) ∧ Below w.heap.size w wr) (fun i _ => 32 - (intOf i).toNat)
  case atStart =>
    refine ⟨0, by omega, rfl, ?_, ?_, ?_⟩
    · exact al3_2 _ _ _ _
    · exact al3_1 _ _ _ _
    · exact (((Below.refl _ _).alloc (Nat.le_refl _) _).alloc (by simp) _).alloc (by simp; omega) _
  case round =>
    obtain ⟨k, hk, rfl, hq, hz, hbl⟩ := hrel
    by_cases hlt : k < 32
    · obtain ⟨x, hx⟩ : ∃ x, x = l.getD k 0 := ⟨_, rfl⟩
      obtain ⟨y, hy⟩ : ∃ y, y = (foldk l k).getD (k % 20) 0 := ⟨_, rfl⟩
      have hix := fun (w : World) => run_index_bs (P := Try.prog) w Try.underlying23 Try.underlying5 size5 l hl k hlt
      rw [← hx] at hix
      have hc : wr.cell? ⟨w.heap.size + 1 + 1, k % 20, none⟩ = some (.int .u8 (y : Int)) := by
        rw [cell_of_row wr _ _ _ _ _ hq, bs_get _ _ (by rw [foldk_len]; omega), hy]
      have hfz := frozen_of_row wr _ (k % 20) _ _ hq
      have HX : Hid (x = l.getD k 0) := hx
      have HY : Hid (y = (foldk l k).getD (k % 20) 0) := hy
      have HF : Hid (wr.heap[w.heap.size + 1 + 1]? = some (.cells (bs (foldk l k)) 25 (0, 0))) := hq
      have HZ : Hid (wr.heap[w.heap.size + 1]? = some (.cells (bs z20) 25 (0, 0))) := hz
      clear hx hy hq hz
      go_wp2
      go_roundw
      case rel =>
        refine ⟨k + 1, by omega, by go_num, ?_, ?_, ?_⟩
        · rw [heap_setCell_same _ _ _ _ _ _ HF.out, u8_xor_nat y x (by rw [HY.out]; exact getD_lt (foldk_lt l hb k) _) (by rw [HX.out]; exact getD_lt hb _), bs_set, foldk_succ, HX.out, HY.out]
        · rw [heap_setCell_other _ _ _ _ (by simp)]
          exact HZ.out
        · exact hbl.setCell (by simp; omega) _
      case measure => simp [intOf]; omega
    · have hk32 : Hid (k = 32) := (by omega : k = 32)
      have HF : Hid (wr.heap[w.heap.size + 1 + 1]? = some (.cells (bs (foldk l k)) 25 (0, 0))) := hq
      have HZ : Hid (wr.heap[w.heap.size + 1]? = some (.cells (bs z20) 25 (0, 0))) := hz
      clear hq hz
      go_wp2_with (first | refine wpList_load_row rfl 25 _ rfl _ rfl 25 _ (0, 0) _ (by exact HF.out) Try.underlying25 rfl (by rw [size25, bs_size, foldk_len]) ?_ | refine wpList_store_row rfl 25 _ _ rfl _ _ rfl rfl 25 _ (by exact HZ.out) (by rw [size25, bs_size, foldk_len]) (by rw [bs_size, bs_size, foldk_len]; rfl) (bs_one _) ?_)
      have hres : ((wr.setRow (w.heap.size + 1) (bs (foldk l k)))).heap[w.heap.size + 1]? = some (.cells (bs (foldk l k)) 25 (0, 0)) := setRow_heap _ _ _ _ _ _ HZ.out
      refine bodyPost_ret (v := .agg (bs (foldk l k))) (results_cell_row rfl _ _ (w.heap.size + 1) 25 _ (0, 0) _ rfl hres Try.underlying25 rfl (by rw [size25, bs_size, foldk_len])) rfl ⟨?_, ?_⟩
      · rw [hk32.out, hf.out]; rfl
      · exact ⟨hbl.os, hbl.tape, hbl.output, by simpa using hbl.size, fun j hj => (setRow_other _ _ _ _ (by omega)).trans (hbl.block j hj)⟩
end Go.Proofs.Ytkppejaigodgiaa
